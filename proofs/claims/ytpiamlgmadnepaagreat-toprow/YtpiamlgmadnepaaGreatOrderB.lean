/-
  What keep and overdue of package order return, and what they leave in memory. Their condition: what is kept is such as it may be.
-/
import Derived.Test.YtpiamlgmadnepaaGreatOrderA
import Derived.Deep.RegionHeld3
namespace Go.Proofs.YtpiamlgmadnepaaGreat.Order
open Go.ChangeShapes Go.WideShapes Go.ChangeAt Go.RowKit Go.Maps Go.Proofs.YtpiamlgmadnepaaGreat.PM Go.Proofs.YtpiamlgmadnepaaGreat.Mem Go.Proofs.YtpiamlgmadnepaaGreat.Pack Go.Proofs.YtpiamlgmadnepaaGreat.OM
set_option linter.unusedVariables false

/-- block g holds an item -/
def IBox (w : World) (h : Nat) (n : Int) (g : Bool) (s t l q : Int) (st : Bool) (bv : Value) : Prop := w.heap[h]? = some (.cells #[.int .i64 n, .bool g, .int .i64 s, .int .i64 t, .int .i64 l, .int .i64 q, .bool st, bv] 82 (0, 0))
theorem IBox.new (w : World) (n : Int) (g : Bool) (s t l q : Int) (st : Bool) (bv : Value) : IBox (w.alloc (.cells #[.int .i64 n, .bool g, .int .i64 s, .int .i64 t, .int .i64 l, .int .i64 q, .bool st, bv] 82)) w.heap.size n g s t l q st bv := heap_alloc_new w _
theorem IBox.lt {w : World} {h : Nat} {n : Int} {g : Bool} {s t l q : Int} {st : Bool} {bv : Value} (hx : IBox w h n g s t l q st bv) : h < w.heap.size := lt_of_block hx
theorem IBox.below {w w' : World} {h B : Nat} {n : Int} {g : Bool} {s t l q : Int} {st : Bool} {bv : Value} (hx : IBox w h n g s t l q st bv) (hb : Below B w w') (hB : h < B) : IBox w' h n g s t l q st bv := (hb.block h hB).trans hx
theorem IBox.alloc {w : World} {h : Nat} {n : Int} {g : Bool} {s t l q : Int} {st : Bool} {bv : Value} (hx : IBox w h n g s t l q st bv) (o : Obj) : IBox (w.alloc o) h n g s t l q st bv := (Below.heap_alloc _ _ _ hx.lt).trans hx
theorem IBox.cells {w : World} {h : Nat} {n : Int} {g : Bool} {s t l q : Int} {st : Bool} {bv : Value} (hx : IBox w h n g s t l q st bv) :
    w.cell? ⟨h, 0, none⟩ = some (.int .i64 n) ∧ w.cell? ⟨h, 1, none⟩ = some (.bool g) ∧ w.cell? ⟨h, 2, none⟩ = some (.int .i64 s) ∧ w.cell? ⟨h, 3, none⟩ = some (.int .i64 t) ∧ w.cell? ⟨h, 4, none⟩ = some (.int .i64 l) ∧ w.cell? ⟨h, 5, none⟩ = some (.int .i64 q) ∧ w.cell? ⟨h, 6, none⟩ = some (.bool st) ∧ w.cell? ⟨h, 7, none⟩ = some bv := by
  simp only [IBox] at hx
  simp [World.cell?, hx]
theorem IBox.free {w : World} {h : Nat} {n : Int} {g : Bool} {s t l q : Int} {st : Bool} {bv : Value} (hx : IBox w h n g s t l q st bv) (j : Nat) : w.frozen? ⟨h, j, none⟩ = false := by
  simp only [IBox] at hx
  simp [World.frozen?, hx]

set_option maxHeartbeats 1000000 in
set_option maxRecDepth 100000 in
theorem keep_old (b mb : Nat) (wt nw nx now n : Int) (g : Bool) (s t l q : Int) (st : Bool) (bv : Value) (M : Its) (w : World) (h : OrderAt w b mb wt nw nx M) (hn : n < nx) :
    Calls Tryz.prog 71 #[.pointer (some ⟨b, 0, none⟩), .agg #[.int .i64 n, .bool g, .int .i64 s, .int .i64 t, .int .i64 l, .int .i64 q, .bool st, bv], .int .i64 now] w fun e w' => e = .returned (.bool false) ∧ Below w.heap.size w w' := by
  have HX := hidden (IBox.new w n g s t l q st bv)
  have HO := hidden (h.alloc (.cells #[.int .i64 n, .bool g, .int .i64 s, .int .i64 t, .int .i64 l, .int .i64 q, .bool st, bv] 82))
  obtain ⟨c0, c1, c2, c3⟩ := HO.out.cells
  obtain ⟨x0, _⟩ := HX.out.cells
  have d : decide (n < nx) = true := by simpa using hn
  clear h c0 c1 c3
  go_enter Tryz.func71, Tryz.ntmps71
  go_wp2_with fail
  go_quiet (fail)
  go_wp2_with fail
  go_ret
  exact ⟨rfl, below_drewN ((Below.refl _ _).alloc (Nat.le_refl _) _) _⟩

/-- an item is about to be kept -/
def KSt (w W : World) (b mb : Nat) (wt nw nx : Int) (M : Its) (n : Int) (g : Bool) (s t l q : Int) (st : Bool) (bv : Value) : Prop :=
  OrderAt W b mb wt nw nx M ∧ Below w.heap.size w W ∧ IBox W w.heap.size n g s t l q st bv

set_option maxHeartbeats 2000000 in
set_option maxRecDepth 100000 in
theorem keep_has (b mb : Nat) (wt nw nx now n : Int) (g : Bool) (s t l q : Int) (st : Bool) (bv : Value) (M : Its) (w : World) (h : OrderAt w b mb wt nw nx M) (hn : ¬ n < nx) (hw : (Lit.int .i64 n).wf = true) (hh : has M n = true) :
    Calls Tryz.prog 71 #[.pointer (some ⟨b, 0, none⟩), .agg #[.int .i64 n, .bool g, .int .i64 s, .int .i64 t, .int .i64 l, .int .i64 q, .bool st, bv], .int .i64 now] w fun e w' => e = .returned (.bool false) ∧ Below w.heap.size w w' := by
  have HS0 : Hid (KSt w (w.alloc (.cells #[.int .i64 n, .bool g, .int .i64 s, .int .i64 t, .int .i64 l, .int .i64 q, .bool st, bv] 82)) b mb wt nw nx M n g s t l q st bv) := ⟨h.alloc _, (Below.refl _ _).alloc (Nat.le_refl _) _, IBox.new w n g s t l q st bv⟩
  have HH : Hid (∀ W, (W.cell? ⟨w.heap.size, 0, none⟩ = some (.int .i64 n) ∧ W.cell? ⟨b, 2, none⟩ = some (.int .i64 nx) ∧ Hid (KSt w W b mb wt nw nx M n g s t l q st bv)) → Calls Tryz.prog 77 #[.pointer (some ⟨b, 0, none⟩), .int .i64 n] W fun e w' => e = .returned (.bool true) ∧ (w'.cell? ⟨w.heap.size, 0, none⟩ = some (.int .i64 n) ∧ w'.cell? ⟨b, 2, none⟩ = some (.int .i64 nx) ∧ Hid (KSt w w' b mb wt nw nx M n g s t l q st bv))) := by
    refine hidden ?_
    rintro W ⟨_, _, hS⟩
    refine (has_calls b mb wt nw nx n M W hS.out.1 hw).mono ?_
    rintro e w' ⟨rfl, hb⟩
    have hS' : KSt w w' b mb wt nw nx M n g s t l q st bv := ⟨hS.out.1.below hb, hS.out.2.1.trans (hb.mono hS.out.2.1.size), hS.out.2.2.below hb hS.out.2.2.lt⟩
    exact ⟨by rw [hh], hS'.2.2.cells.1, hS'.1.cells.2.2.1, hS'⟩
  have d : decide (n < nx) = false := by simpa using hn
  clear h hh
  have hS1 : ((w.alloc (.cells #[.int .i64 n, .bool g, .int .i64 s, .int .i64 t, .int .i64 l, .int .i64 q, .bool st, bv] 82)).drew.cell? ⟨w.heap.size, 0, none⟩ = some (.int .i64 n) ∧ (w.alloc (.cells #[.int .i64 n, .bool g, .int .i64 s, .int .i64 t, .int .i64 l, .int .i64 q, .bool st, bv] 82)).drew.cell? ⟨b, 2, none⟩ = some (.int .i64 nx) ∧ Hid (KSt w (w.alloc (.cells #[.int .i64 n, .bool g, .int .i64 s, .int .i64 t, .int .i64 l, .int .i64 q, .bool st, bv] 82)).drew b mb wt nw nx M n g s t l q st bv)) := ⟨HS0.out.2.2.cells.1, HS0.out.1.cells.2.2.1, hidden ⟨HS0.out.1.below ((Below.refl _ _).drew), HS0.out.2.1.drew, HS0.out.2.2⟩⟩
  go_enter Tryz.func71, Tryz.ntmps71
  go_wp2_with fail
  go_region_held3 (fun w' => w'.cell? ⟨w.heap.size, 0, none⟩ = some (.int .i64 n) ∧ w'.cell? ⟨b, 2, none⟩ = some (.int .i64 nx) ∧ Hid (KSt w w' b mb wt nw nx M n g s t l q st bv)) (with_reducible assumption) (first | (go_at_call 77; refine (HH.out _ (by with_reducible assumption)).mono ?_; rintro e w7 ⟨rfl, hS7⟩))
  go_wp2_with fail
  go_ret
  exact ⟨rfl, hS7.2.2.out.2.1⟩

set_option maxHeartbeats 2000000 in
set_option maxRecDepth 100000 in
theorem keep_new (b mb : Nat) (wt nw nx now n : Int) (g : Bool) (s t l q : Int) (st : Bool) (a : Option Addr) (m c : Nat) (L : List Nat) (M : Its) (w : World) (h : OrderAt w b mb wt nw nx M) (hl : M.length ≤ 1000) (hn : ¬ n < nx) (hw : (Lit.int .i64 n).wf = true) (hh : has M n = false) (hB : Body w ⟨s, t, l, q, st, L, .slice a m c⟩) :
    Calls Tryz.prog 71 #[.pointer (some ⟨b, 0, none⟩), .agg #[.int .i64 n, .bool g, .int .i64 s, .int .i64 t, .int .i64 l, .int .i64 q, .bool st, .slice a m c], .int .i64 now] w fun e w' => e = .returned (.bool true) ∧ OrderAt w' b mb wt nw nx (M ++ [⟨n, g, ⟨s, t, l, q, st, L, .slice a m c⟩, now⟩]) ∧ Only [mb] w w' := by
  obtain ⟨M2, hM2⟩ : ∃ M2 : Its, M ++ [⟨n, g, ⟨s, t, l, q, st, L, .slice a m c⟩, now⟩] = M2 := ⟨_, rfl⟩
  rw [hM2]
  have HS0 : Hid (KSt w (w.alloc (.cells #[.int .i64 n, .bool g, .int .i64 s, .int .i64 t, .int .i64 l, .int .i64 q, .bool st, .slice a m c] 82)) b mb wt nw nx M n g s t l q st (.slice a m c)) := ⟨h.alloc _, (Below.refl _ _).alloc (Nat.le_refl _) _, IBox.new w n g s t l q st (.slice a m c)⟩
  have HH : Hid (∀ W, (W.cell? ⟨w.heap.size, 0, none⟩ = some (.int .i64 n) ∧ W.cell? ⟨b, 2, none⟩ = some (.int .i64 nx) ∧ Hid (KSt w W b mb wt nw nx M n g s t l q st (.slice a m c))) → Calls Tryz.prog 77 #[.pointer (some ⟨b, 0, none⟩), .int .i64 n] W fun e w' => e = .returned (.bool false) ∧ (w'.cell? ⟨w.heap.size, 0, none⟩ = some (.int .i64 n) ∧ w'.cell? ⟨b, 2, none⟩ = some (.int .i64 nx) ∧ Hid (KSt w w' b mb wt nw nx M n g s t l q st (.slice a m c)))) := by
    refine hidden ?_
    rintro W ⟨_, _, hS⟩
    refine (has_calls b mb wt nw nx n M W hS.out.1 hw).mono ?_
    rintro e w' ⟨rfl, hb⟩
    have hS' : KSt w w' b mb wt nw nx M n g s t l q st (.slice a m c) := ⟨hS.out.1.below hb, hS.out.2.1.trans (hb.mono hS.out.2.1.size), hS.out.2.2.below hb hS.out.2.2.lt⟩
    exact ⟨by rw [hh], hS'.2.2.cells.1, hS'.1.cells.2.2.1, hS'⟩
  have HSt : Hid (∀ W, KSt w W b mb wt nw nx M n g s t l q st (.slice a m c) → ∃ w2, (Instr.mapUpdate 124 (.map (some mb)) (.int .i64 n) (.agg #[.int .i64 n, .bool g, .int .i64 s, .int .i64 t, .int .i64 l, .int .i64 q, .bool st, .slice a m c, .int .i64 now])).run Tryz.prog W = .ok () w2 ∧ Hid (OrderAt w2 b mb wt nw nx M2 ∧ Only [mb] w w2)) := by
    refine hidden ?_
    intro W hW
    obtain ⟨w2, h1, h2, h3⟩ := store_new hW.1 ⟨n, g, ⟨s, t, l, q, st, L, .slice a m c⟩, now⟩ hh hw hl (hB.only (Only.of_below hW.2.1 []) (by simp))
    rw [hM2] at h2
    exact ⟨w2, h1, h2, (Only.of_below hW.2.1 _).trans h3⟩
  have d : decide (n < nx) = false := by simpa using hn
  clear h hh hM2 hB
  have hS1 : ((w.alloc (.cells #[.int .i64 n, .bool g, .int .i64 s, .int .i64 t, .int .i64 l, .int .i64 q, .bool st, .slice a m c] 82)).drew.cell? ⟨w.heap.size, 0, none⟩ = some (.int .i64 n) ∧ (w.alloc (.cells #[.int .i64 n, .bool g, .int .i64 s, .int .i64 t, .int .i64 l, .int .i64 q, .bool st, .slice a m c] 82)).drew.cell? ⟨b, 2, none⟩ = some (.int .i64 nx) ∧ Hid (KSt w (w.alloc (.cells #[.int .i64 n, .bool g, .int .i64 s, .int .i64 t, .int .i64 l, .int .i64 q, .bool st, .slice a m c] 82)).drew b mb wt nw nx M n g s t l q st (.slice a m c))) := ⟨HS0.out.2.2.cells.1, HS0.out.1.cells.2.2.1, hidden ⟨HS0.out.1.below ((Below.refl _ _).drew), HS0.out.2.1.drew, HS0.out.2.2⟩⟩
  go_enter Tryz.func71, Tryz.ntmps71
  go_wp2_with fail
  go_region_held3 (fun w' => w'.cell? ⟨w.heap.size, 0, none⟩ = some (.int .i64 n) ∧ w'.cell? ⟨b, 2, none⟩ = some (.int .i64 nx) ∧ Hid (KSt w w' b mb wt nw nx M n g s t l q st (.slice a m c))) (with_reducible assumption) (first | (go_at_call 77; refine (HH.out _ (by with_reducible assumption)).mono ?_; rintro e w7 ⟨rfl, hS7⟩))
  have HS7 := hS7.2.2
  clear hS7 hS1 HS0 HH
  have HS8 : Hid (KSt w w7.drew b mb wt nw nx M n g s t l q st (.slice a m c)) := hidden ⟨HS7.out.1.below ((Below.refl _ _).drew), HS7.out.2.1.drew, HS7.out.2.2⟩
  obtain ⟨w2, hrun, HQ⟩ := HSt.out _ HS8.out
  obtain ⟨c0, c1, c2, c3⟩ := HS7.out.1.cells
  obtain ⟨x0, x1, x2, x3, x4, x5, x6, x7⟩ := HS7.out.2.2.cells
  clear HSt
  go_wp2_with fail
  go_region
  all_goals go_wp2_with fail
  all_goals go_ret
  all_goals exact ⟨rfl, HQ.out⟩
theorem keep_calls (b mb : Nat) (wt nw nx now n : Int) (g : Bool) (s t l q : Int) (st : Bool) (a : Option Addr) (m c : Nat) (L : List Nat) (M : Its) (w : World) (h : OrderAt w b mb wt nw nx M) (hl : M.length ≤ 1000) (hw : (Lit.int .i64 n).wf = true) (hB : Body w ⟨s, t, l, q, st, L, .slice a m c⟩) :
    Calls Tryz.prog 71 #[.pointer (some ⟨b, 0, none⟩), .agg #[.int .i64 n, .bool g, .int .i64 s, .int .i64 t, .int .i64 l, .int .i64 q, .bool st, .slice a m c], .int .i64 now] w fun e w' => e = .returned (.bool (kx nx n M)) ∧ OrderAt w' b mb wt nw nx (if kx nx n M then M ++ [⟨n, g, ⟨s, t, l, q, st, L, .slice a m c⟩, now⟩] else M) ∧ Only [mb] w w' := by
  by_cases hn : n < nx
  · have e : kx nx n M = false := by simp [kx]; omega
    rw [e]
    refine (keep_old b mb wt nw nx now n g s t l q st _ M w h hn).mono ?_
    rintro e w' ⟨rfl, hb⟩
    exact ⟨rfl, h.below hb, Only.of_below hb _⟩
  by_cases hh : has M n = true
  · have e : kx nx n M = false := by simp [kx, hh]
    rw [e]
    refine (keep_has b mb wt nw nx now n g s t l q st _ M w h hn hw hh).mono ?_
    rintro e w' ⟨rfl, hb⟩
    exact ⟨rfl, h.below hb, Only.of_below hb _⟩
  · have hh' : has M n = false := by simpa using hh
    have e : kx nx n M = true := by simp [kx, hh']; omega
    rw [e]
    exact keep_new b mb wt nw nx now n g s t l q st a m c L M w h hl hn hw hh' hB

theorem left_drew {P : Program} {k : TypeId} {R : Value → Option (DataW Value × List MemPlace)} {w : World} {b r n cnt : Nat} {D : DataW Value} {left : Lit → Bool} (h : w.ranges P k R b r n D left cnt) (j : Nat) : (w.drewN j).rangeLeft b r = cnt := by
  have h' : (w.drewN j).ranges P k R b r n D left cnt := h
  exact h'.left_eq
/-- under way: the greatest so far -/
def LSt (w wr : World) (mb it : Nat) (wt now od : Int) (M : Its) (D : DataW Value) (left : Lit → Bool) (cnt : Nat) : Prop :=
  wr.ranges Tryz.prog 3 wtR mb it M.length D left cnt ∧ Below w.heap.size w wr ∧ w.heap.size ≤ it ∧ -1 ≤ od ∧ (∀ i ∈ M, left (key i.n) = false → late wt now i = true → i.n ≤ od) ∧ (od = -1 ∨ ∃ i ∈ M, late wt now i = true ∧ od = i.n)
theorem lst_step {w wr w1 : World} {mb it cnt cnt1 : Nat} {wt now od od' : Int} {M : Its} {D : DataW Value} {left : Lit → Bool} {j : Kp} (h : LSt w wr mb it wt now od M D left cnt) (hb : Below w.heap.size wr w1)
    (hr : w1.ranges Tryz.prog 3 wtR mb it M.length D (fun z => left z && !z.sameKey (key j.n)) cnt1) (hj : j ∈ M) (hone : Apart M) (h0 : 0 ≤ j.n) (hod : od' = if late wt now j then max od j.n else od) : LSt w w1 mb it wt now od' M D (fun z => left z && !z.sameKey (key j.n)) cnt1 := by
  obtain ⟨g1, g2, g3, g4, g5, g6⟩ := h
  refine ⟨hr, g2.trans hb, g3, ?_, ?_, ?_⟩
  · rw [hod]; split <;> omega
  · intro i hi hl hlt
    by_cases e : i.n = j.n
    · obtain rfl : i = j := by rw [← itm_eq hone hi, e, itm_eq hone hj]
      rw [hod, hlt]
      simp; omega
    · have hs : (key i.n).sameKey (key j.n) = false := sameKey_ne (fun h => e (key_inj h))
      simp only [hs, Bool.not_false, Bool.and_true] at hl
      have := g5 i hi hl hlt
      rw [hod]; split <;> omega
  · rw [hod]
    split
    · rename_i hlt
      rcases Int.le_total od j.n with hle | hle
      · rw [Int.max_eq_right hle]; exact .inr ⟨j, hj, hlt, rfl⟩
      · rw [Int.max_eq_left hle]; exact g6
    · exact g6

set_option maxHeartbeats 2000000 in
set_option maxRecDepth 100000 in
theorem overdue_calls (b mb : Nat) (wt nw nx now od : Int) (M : Its) (w : World) (h : OrderAt w b mb wt nw nx M) (hI : OM.Inv nw nx M) (hO : Od wt now M od) (h0 : 0 ≤ now) (h1 : now ≤ 1000000) :
    Calls Tryz.prog 76 #[.pointer (some ⟨b, 0, none⟩), .int .i64 now] w fun e w' => e = .returned (.int .i64 od) ∧ Below w.heap.size w w' := by
  obtain ⟨c0, c1, c2, c3⟩ := h.cells
  obtain ⟨D, hown, hK, hE⟩ := h.map
  have hlt := h.lt
  have HB := hidden h.box
  have HO := hidden hown
  have HK := hidden hK
  have HE := hidden hE
  have HI := hidden hI
  have HOd := hidden hO
  have HBo := hidden h.bod
  clear h hown hK hE hI hO
  go_enter Tryz.func76, Tryz.ntmps76
  go_wp2_with (at_range; refine wpList_range_own _ rfl _ 124 rfl 3 188 law3 Tryz.underlying124 _ mb M.length D rfl HO.out ?_; intro w0 hrg0 hg0 hs0)
  go_frame
  have HS0 : Hid (LSt w w0 mb w.heap.size wt now (-1) M D (Maps.has D) (Maps.size D)) :=
    ⟨hrg0, (Below.refl _ _).grown hg0 (Nat.le_refl _) (by simp), Nat.le_refl _, Int.le_refl _, (fun i hi hl => by rw [(HK.out (key i.n)).2 ⟨i, hi, rfl⟩] at hl; cases hl), .inl rfl⟩
  clear hrg0 hg0 hs0 HO c0 c1 c2 c3
  go_loopw [5] (fun g' wr => ∃ (m : Int) (left : Lit → Bool) (cnt : Nat), g' = .int .i64 m ∧ Hid (LSt w wr mb w.heap.size wt now m M D left cnt)) (fun _ wr => wr.rangeLeft mb w.heap.size)
  case atStart => exact ⟨_, _, _, rfl, HS0⟩
  case round =>
    obtain ⟨m, left, cnt, rfl, HS⟩ := hrel
    clear HS0
    go_wp2_with (at_next; refine wpList_next_ranges _ rfl _ rfl 3 law3 wtR (Value.int .i64) (fun v : Value => v) (fun key kl hkey => by obtain ⟨x, rfl, _⟩ := Maps.keyOf_int_inv Tryz.underlying3 hkey; exact ⟨x, rfl⟩) (fun v y hv => ⟨v, rfl⟩) mb w.heap.size M.length D left cnt rfl HS.out.1 ?_ ?_)
    · intro _ hl0
      go_wp2_with fail
      go_ret
      obtain ⟨g1, g2, g3, g4, g5, g6⟩ := HS.out
      have e : m = od := by
        obtain ⟨k1, k2, k3⟩ := HOd.out
        have a1 : m ≤ od := by
          rcases g6 with e | ⟨i, hi, hl, e⟩
          · omega
          · have := k2 i hi hl; omega
        have a2 : od ≤ m := by
          rcases k3 with e | ⟨i, hi, hl, e⟩
          · omega
          · have := g5 i hi (hl0 _) hl; omega
        omega
      exact ⟨by rw [← e]; rfl, g2⟩
    · intro x v kl yd yp w1 cnt1 hkey hlk hv hat hrg1 hlt1 hg1 hs1 hen
      obtain ⟨x', ex, rfl, hwx⟩ := Maps.keyOf_int_inv Tryz.underlying3 hkey
      cases ex
      obtain ⟨i, hi, ei⟩ := (HK.out (key x)).1 (has_true_of_atKey hat)
      have hxi : i.n = x := (key_inj ei).symm
      have hvi : v = lv i := by
        have h1 := HE.out i hi (.held v)
        have h2 := hat (.held v)
        rw [hxi] at h1
        rw [show key x = Lit.int .i64 x from rfl] at h1
        rw [h1] at h2
        have h3 := (wtR_inv hv).2
        simp only [Prod.mk.injEq] at h3
        rw [h3.1] at h2
        simpa using h2.symm
      have hm := HI.out.mem i hi
      obtain ⟨a, mm, c, hbv, _⟩ := HBo.out i hi
      have hR1 : w1.ranges Tryz.prog 3 wtR mb w.heap.size M.length D (fun z => left z && !z.sameKey (key i.n)) cnt1 := by rw [hxi]; exact hrg1
      have hgB : Below w.heap.size wr w1 := (Below.refl _ _).grown hg1 HS.out.2.1.size (by simp)
      have HL : Hid (∀ W od', Below w.heap.size w1 W → (W.ranges Tryz.prog 3 wtR mb w.heap.size M.length D (fun z => left z && !z.sameKey (key i.n)) cnt1) → od' = (if late wt now i then max m i.n else m) → LSt w W mb w.heap.size wt now od' M D (fun z => left z && !z.sameKey (key i.n)) cnt1) := hidden (fun W od' hb hr he => lst_step HS.out (hgB.trans hb) hr hi HI.out.one hm.1 he)
      have HR1 := hidden hR1
      have HI1 := hidden hi
      have hB1 : Below w.heap.size w w1 := HS.out.2.1.trans hgB
      have HB1 := hidden hB1
      obtain ⟨k0, k1, k2, k3⟩ := cells4 ((hB1.block b hlt.1).trans HB.out)
      have k1a := fun O => cell_alloc k1 O
      have HX := hidden hxi
      clear hrg1 hg1 hkey hlk hv hat ei hR1 hgB hB1 hi k0 k2 k3
      unfold lv at hvi
      rw [hbv] at hvi
      subst hvi
      have hlate : late wt now i = decide (wt ≤ now - i.a) := rfl
      have HLt := hidden hlate
      obtain ⟨z, hz⟩ : ∃ z, i.a = z := ⟨_, rfl⟩
      rw [hz] at hen hm HLt
      rw [hxi] at hen hm
      clear hz hlate hbv hxi
      obtain ⟨_, _, _, _, hz0, hz1⟩ := hm
      have hz2 : z ≤ 1000000 := by have := HI.out.c2; omega
      by_cases hl : wt ≤ now - z
      · have d : decide (wt ≤ now - z) = true := by simpa using hl
        rw [d] at HLt
        go_wp2_with fail
        go_quiet (fail)
        go_wp2_with fail
        go_roundw
        case rel =>
          refine ⟨max m x, _, cnt1, congrArg (Value.int .i64) (by split <;> omega), HL.out _ _ (below_drewN ((Below.refl _ _).alloc HB1.out.size _) _) (HR1.out.alloc _) ?_⟩
          rw [HLt.out, HX.out]
          rfl
        case measure => rw [left_drew (HR1.out.alloc _), HS.out.1.left_eq]; omega
      · have d : decide (wt ≤ now - z) = false := by simpa using hl
        rw [d] at HLt
        go_wp2_with fail
        go_quiet (fail)
        go_wp2_with fail
        go_roundw
        case rel =>
          refine ⟨m, _, cnt1, rfl, HL.out _ _ (below_drewN ((Below.refl _ _).alloc HB1.out.size _) _) (HR1.out.alloc _) ?_⟩
          rw [HLt.out]
          rfl
        case measure => rw [left_drew (HR1.out.alloc _), HS.out.1.left_eq]; omega
end Go.Proofs.YtpiamlgmadnepaaGreat.Order

