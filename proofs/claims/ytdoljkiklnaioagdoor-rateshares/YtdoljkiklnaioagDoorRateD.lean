/-
  The library's Backward at rows of numbers; what Choose of package rate returns. They change nothing that was there.
-/
import Derived.Test.YtdoljkiklnaioagDoorRateC
import Derived.RangeFuncNested
namespace Go.Proofs.YtdoljkiklnaioagDoor.Rate
open Go.ChangeShapes Go.WideShapes Go.ChangeAt Go.RowKit Go.Shelf Go.Proofs.YtdoljkiklnaioagDoor.Mem Go.Proofs.YtdoljkiklnaioagDoor.RT
set_option linter.unusedVariables false

/-- the last of the first k places whose rate is at most A, or -1 -/
def la (A : Int) (L : List Int) : Nat → Int
  | 0 => -1
  | k + 1 => if L.getD k 0 ≤ A then (k : Int) else la A L k
theorem la_none {A : Int} {L : List Int} : ∀ n, (∀ i, i < n → A < L.getD i 0) → la A L n = -1
  | 0, _ => rfl
  | n + 1, h => by
    have := h n (by omega)
    simp only [la]
    rw [if_neg (by omega), la_none n fun i hi => h i (by omega)]
theorem la_last {A : Int} {L : List Int} {i : Nat} : ∀ n, i < n → L.getD i 0 ≤ A → (∀ j, i < j → j < n → A < L.getD j 0) → la A L n = (i : Int)
  | 0, h, _, _ => by omega
  | n + 1, h, h1, h2 => by
    simp only [la]
    by_cases e : i = n
    · subst e; rw [if_pos h1]
    · have := h2 n (by omega) (by omega)
      rw [if_neg (by omega)]
      exact la_last n (by omega) h1 fun j a b => h2 j a (by omega)
/-- what Choose tells, and which layer -/
def cf (A : Int) (L : List Int) : Nat := if rf A L 4 = 0 then (if la A L L.length < 0 then 5 else 0) else rf A L 4
def cv (A : Int) (L : List Int) : Int := if rf A L 4 = 0 then (if la A L L.length < 0 then 0 else la A L L.length) else 0
theorem c_err {A : Int} {L : List Int} (h : rf A L 4 ≠ 0) : cf A L = rf A L 4 ∧ cv A L = 0 := by unfold cf cv; rw [if_neg h, if_neg h]; exact ⟨rfl, rfl⟩
theorem choose_big (A : Int) (a : Option Addr) (n cap : Nat) (w : World) (h : 4 < n) (hn : n ≤ 9223372036854775807) :
    Calls Tryd.prog 25 #[.int .i64 A, .slice a n cap] w fun e w' => e = .returned (.tuple #[.int .i64 0, .iface 67 (.int .i64 4)]) ∧ Below w.heap.size w w' := by
  have hz : (4 : Int) < (n : Int) := by omega
  go_enter Tryd.func25, Tryd.ntmps25
  go_wp2_with fail
  refine bodyPost_ret (v := .tuple #[.int .i64 0, .iface 67 (.int .i64 4)]) (by simp [results, Tryd.results25, go_sem]) rfl ?_
  exact ⟨rfl, below_alloc (below_alloc (below_alloc (Below.refl _ _) _) _) _⟩
theorem choose_all (A : Int) (a : Option Addr) (n cap : Nat) (w : World) (h : n ≤ 4) (hb : bad A = true) :
    Calls Tryd.prog 25 #[.int .i64 A, .slice a n cap] w fun e w' => e = .returned (.tuple #[.int .i64 0, .iface 67 (.int .i64 1)]) ∧ Below w.heap.size w w' := by
  have hz : ¬ (4 : Int) < (n : Int) := by omega
  have HC1 : Hid (∀ W, Calls Tryd.prog 42 #[.int .i64 A] W fun e w' => e = .returned (.bool false) ∧ w' = W) := fun W => by
    have := rate_bad A W
    rwa [hb] at this
  clear hb
  go_enter Tryd.func25, Tryd.ntmps25
  go_wp2_with fail
  refine (HC1.out _).mono ?_
  rintro e w' ⟨rfl, hw⟩
  obtain rfl := hw.symm
  go_wp2_with fail
  refine bodyPost_ret (v := .tuple #[.int .i64 0, .iface 67 (.int .i64 1)]) (by simp [results, Tryd.results25, go_sem]) rfl ?_
  exact ⟨rfl, below_alloc (below_alloc (below_alloc (Below.refl _ _) _) _) _⟩
theorem choose_any (A : Int) (a : Option Addr) (n cap : Nat) (L : List Int) (w : World) (h : n ≤ 4) (hA : IArg w a n L) (hb : bad A = false) (hc : L.any bad = true) :
    Calls Tryd.prog 25 #[.int .i64 A, .slice a n cap] w fun e w' => e = .returned (.tuple #[.int .i64 0, .iface 67 (.int .i64 1)]) ∧ Below w.heap.size w w' := by
  have hz : ¬ (4 : Int) < (n : Int) := by omega
  have HC1 : Hid (∀ W, Calls Tryd.prog 42 #[.int .i64 A] W fun e w' => e = .returned (.bool true) ∧ w' = W) := fun W => by
    have := rate_bad A W
    rwa [hb] at this
  have HC2 : Hid (∀ W, Below w.heap.size w W → Calls Tryd.prog 43 #[.slice a n cap] W fun e w' => e = .returned (.bool false) ∧ w' = W) := fun W hW => by
    have := areRates_calls a n cap L W (hA.below hW)
    rwa [hc] at this
  clear hb hc hA
  go_enter Tryd.func25, Tryd.ntmps25
  go_wp2_with fail
  refine (HC1.out _).mono ?_
  rintro e w' ⟨rfl, hw⟩
  obtain rfl := hw.symm
  go_wp2_with fail
  refine (HC2.out _ (below_alloc (below_alloc (below_alloc (Below.refl _ _) _) _) _)).mono ?_
  rintro e w' ⟨rfl, hw⟩
  obtain rfl := hw.symm
  go_wp2_with fail
  refine bodyPost_ret (v := .tuple #[.int .i64 0, .iface 67 (.int .i64 1)]) (by simp [results, Tryd.results25, go_sem]) rfl ?_
  exact ⟨rfl, below_alloc (below_alloc (below_alloc (Below.refl _ _) _) _) _⟩

attribute [local go_sem] Oper.semAt_some
/-- the first k that come from the end on -/
def bt (L : List Int) (k : Nat) : List (Nat × Int) := (List.range k).map fun r => (L.length - 1 - r, L.getD (L.length - 1 - r) 0)
theorem bt_next (L : List Int) (k : Nat) : bt L (k + 1) = bt L k ++ [(L.length - 1 - k, L.getD (L.length - 1 - k) 0)] := by simp [bt, List.range_succ]
theorem bt_len (L : List Int) (k : Nat) : (bt L k).length = k := by simp [bt]
set_option maxRecDepth 100000 in
set_option maxHeartbeats 2000000 in
theorem back1_in (n : Nat) (hn : 1 ≤ n) (l Bs n₀ : Nat) (a : Option Addr) (cap : Nat) (L : List Int) (hl : L.length ≤ 1000) (J Jx : List (Nat × Int) → World → Prop)
    (hY : ∀ pre x W, J pre W → pre.length < L.length → YieldAt Fence.wide (n - 1) Tryd.prog l #[.int .i64 (x.1 : Int), .int .i64 x.2] W fun e W' =>
      (e = .returned (.bool true) ∧ J (pre ++ [x]) W' ∧ Below n₀ W W') ∨ (e = .returned (.bool false) ∧ Jx (pre ++ [x]) W'))
    (W : World) (hn₀ : Bs < n₀) (hBs : W.cell? ⟨Bs, 0, none⟩ = some (.slice a L.length cap)) (hA : Low n₀ W a L) (h0 : J [] W) :
    CallsIn Fence.wide n Tryd.prog 53 #[.func (.yield l) #[] #[], .pointer (some ⟨Bs, 0, none⟩)] W fun e W' => (∃ v, e = .returned v) ∧ ((∃ ys, ys = bt L L.length ∧ J ys W') ∨ (∃ pre, (∃ k, k < L.length ∧ pre = bt L (k + 1)) ∧ Jx pre W')) := by
  obtain ⟨len, hlen⟩ : ∃ len, L.length = len := ⟨_, rfl⟩
  rw [hlen] at hBs hl ⊢
  refine callsIn_of_wp Tryd.func53 rfl trivial ?_ rfl
  simp only [Tryd.ntmps53, List.size_toArray, List.length_cons, List.length_nil, Nat.reduceAdd, Nat.reduceSub, Array.replicate_succ, Array.replicate_zero, List.push_toArray, List.append_toArray, List.nil_append, List.cons_append]
  gi_wp2
  gi_loopw [3] (fun i wr => ∃ k r : Nat, k + r = len ∧ i = .int .i64 ((r : Int) - 1) ∧ J (bt L k) wr ∧ Below n₀ W wr) (fun i _ => (intOf i + 1).toNat)
  case atStart => exact ⟨0, len, by omega, rfl, h0, Below.refl _ _⟩
  case round =>
    obtain ⟨k, r, hk, rfl, hJs, hnx⟩ := hrel
    have hBs' := (hnx.cell (p := ⟨Bs, 0, none⟩) hn₀).trans hBs
    cases r with
    | succ r =>
      obtain ⟨b, o, rfl, hbl, hc⟩ := (hA.below hnx) r (by omega)
      obtain ⟨fn, tmps, assign, body, hy, hR⟩ := hY _ (r, L.getD r 0) wr hJs (by rw [bt_len]; omega)
      rw [show (r, L.getD r 0) = (L.length - 1 - k, L.getD (L.length - 1 - k) 0) by rw [show L.length - 1 - k = r by omega], ← bt_next] at hR
      dsimp only at hy
      obtain ⟨y, hyy⟩ : ∃ y, L.getD r 0 = y := ⟨_, rfl⟩
      rw [hyy] at hy hc
      have er : ((r + 1 : Nat) : Int) - 1 = (r : Int) := by omega
      rw [er]
      clear hyy er
      gi_wp2
      refine hR.mono ?_
      rintro e W3 (⟨rfl, hJ3, hk3⟩ | ⟨rfl, hJx3⟩)
      · gi_wp2
        go_roundw
        case rel => exact ⟨k + 1, r, by omega, by simp, hJ3, hnx.trans hk3⟩
        case measure => simp [intOf]
      · gi_wp2
        refine bodyPost_ret (results_none rfl _ _ _) rfl ?_
        exact ⟨⟨_, rfl⟩, .inr ⟨_, ⟨k, by omega, rfl⟩, hJx3⟩⟩
    | zero =>
      obtain rfl : k = len := by omega
      gi_wp2
      go_end0
      exact ⟨⟨_, rfl⟩, .inl ⟨_, rfl, hJs⟩⟩
set_option maxHeartbeats 1000000 in
theorem back_in (n : Nat) (a : Option Addr) (len cap : Nat) (w : World) :
    CallsIn Fence.wide n Tryd.prog 45 #[.slice a len cap] w fun e w' => e = .returned (.func (.func 53) #[] #[.pointer (some ⟨w.heap.size, 0, none⟩)]) ∧ w' = w.alloc (.cells #[.slice a len cap] 31) := by
  refine callsIn_of_wp Tryd.func45 rfl trivial ?_ rfl
  simp only [Tryd.ntmps45, List.size_toArray, List.length_cons, List.length_nil, Nat.reduceAdd, Nat.reduceSub, Array.replicate_succ, Array.replicate_zero, List.push_toArray, List.append_toArray, List.nil_append, List.cons_append]
  gi_wp2
  go_ret
  exact ⟨rfl, rfl⟩
/-- all that came are above A -/
def Ab (A : Int) (pre : List (Nat × Int)) : Prop := ∀ p ∈ pre, A < p.2
theorem Ab.nil (A : Int) : Ab A [] := fun p hp => by cases hp
theorem Ab.next {A : Int} {pre : List (Nat × Int)} (h : Ab A pre) {x : Nat × Int} (hx : A < x.2) : Ab A (pre ++ [x]) := fun p hp => by
  rcases List.mem_append.1 hp with q | q
  · exact h p q
  · rw [List.mem_singleton] at q; rw [q]; exact hx
theorem Ab.at {A : Int} {L : List Int} {k : Nat} (h : Ab A (bt L k)) {j : Nat} (hj : L.length ≤ j + k) (hl : j < L.length) : A < L.getD j 0 := by
  have := h (j, L.getD j 0) (by
    simp only [bt, List.mem_map, List.mem_range]
    exact ⟨L.length - 1 - j, by omega, by rw [show L.length - 1 - (L.length - 1 - j) = j by omega]⟩)
  exact this
theorem c_none {A : Int} {L : List Int} (h : rf A L 4 = 0) (h1 : Ab A (bt L L.length)) : cf A L = 5 ∧ cv A L = 0 := by
  have e : la A L L.length = -1 := la_none _ fun i hi => h1.at (by omega) hi
  unfold cf cv
  rw [if_pos h, if_pos h, e]
  exact ⟨rfl, rfl⟩
theorem c_some {A : Int} {L : List Int} {k : Nat} {ini : List (Nat × Int)} {last : Nat × Int} (h : rf A L 4 = 0) (hk : k < L.length) (e : bt L (k + 1) = ini ++ [last]) (h1 : Ab A ini) (h2 : last.2 ≤ A) : cf A L = 0 ∧ cv A L = (last.1 : Int) := by
  rw [bt_next] at e
  obtain ⟨e1, e2⟩ := List.append_inj' e rfl
  rw [List.cons.injEq] at e2
  rw [← e1] at h1
  rw [← e2.1] at h2
  have e3 : la A L L.length = ((L.length - 1 - k : Nat) : Int) := la_last _ (by omega) h2 fun j a b => h1.at (by omega) b
  unfold cf cv
  rw [if_pos h, if_pos h, e3, if_neg (by omega), if_neg (by omega), ← e2.1]
  exact ⟨rfl, rfl⟩
theorem boxed_on {W W' : World} {row : Option Nat} {B C : Nat} {t : TypeId} {v : Value} (h : Boxed W B t v) (hg : W.grownBy W' row) (hr : ∀ r, row = some r → C ≤ r ∧ ∃ o : Obj, W.heap[r]? = some o ∧ o.isCells = false) : Boxed W' B t v :=
  h.kept hg fun e => by
    obtain ⟨_, o, ho, hc⟩ := hr B e.symm
    rw [show W.heap[B]? = _ from h] at ho
    cases ho
    cases hc
theorem back_stops (n : Nat) (hn : 1 ≤ n) (Bs n₀ : Nat) (a : Option Addr) (cap : Nat) (L : List Int) (hl : L.length ≤ 1000) (w : World) (hBs : Bs < n₀) (hn₀ : n₀ ≤ w.heap.size)
    (hc : w.cell? ⟨Bs, 0, none⟩ = some (.slice a L.length cap)) (hA : Low n₀ w a L) :
    SeqStopsK Fence.wide n Tryd.prog 53 #[.pointer (some ⟨Bs, 0, none⟩)] (fun x : Nat × Int => #[Value.int .i64 (x.1 : Int), Value.int .i64 x.2]) (Below n₀) (fun ys => ys = bt L L.length) (fun pre => ∃ k, k < L.length ∧ pre = bt L (k + 1)) L.length w := fun l J Jx W hW _ _ hY h0 =>
  back1_in n hn l Bs n₀ a cap L hl J Jx hY W hBs ((hW.cell (p := ⟨Bs, 0, none⟩) (Nat.lt_of_lt_of_le hBs hn₀)).trans hc) (hA.below (hW.mono hn₀)) h0
set_option maxRecDepth 100000 in
set_option maxHeartbeats 4000000 in
theorem choose_in (A : Int) (a : Option Addr) (n cap : Nat) (L : List Int) (w : World) (h : n ≤ 4) (hA : IArg w a n L) (hb : bad A = false) (hc : L.any bad = false) :
    CallsIn Fence.wide 5 Tryd.prog 25 #[.int .i64 A, .slice a n cap] w fun e w' => e = .returned (.tuple #[.int .i64 (cv A L), errv (cf A L)]) ∧ Below w.heap.size w w' := by
  have hz : ¬ (4 : Int) < (n : Int) := by omega
  have hl := hA.2.1
  have C1 : ∀ W, CallsIn Fence.wide (5 - 1) Tryd.prog 42 #[.int .i64 A] W fun e w' => e = .returned (.bool true) ∧ w' = W := fun W => callsIn_wide.2 (by
    have := rate_bad A W
    rwa [hb] at this)
  have C2 : ∀ W, Below w.heap.size w W → CallsIn Fence.wide (5 - 1) Tryd.prog 43 #[.slice a n cap] W fun e w' => e = .returned (.bool true) ∧ w' = W := fun W hW => callsIn_wide.2 (by
    have := areRates_calls a n cap L W (hA.below hW)
    rwa [hc] at this)
  have hrf : rf A L 4 = 0 := rf_none (by omega) hb hc
  have hro : Fence.wide.round = none := rfl
  have hf1 : Fence.wide.fn 42 := trivial
  have hf2 : Fence.wide.fn 43 := trivial
  have hf3 : Fence.wide.fn 45 := trivial
  refine callsIn_of_wp_marks Tryd.func25 rfl trivial ?_ rfl
  simp only [Tryd.ntmps25, List.size_toArray, List.length_cons, List.length_nil, Nat.reduceAdd, Nat.reduceSub, Array.replicate_succ, Array.replicate_zero, List.push_toArray, List.append_toArray, List.nil_append, List.cons_append]
  gi_wp2_with (first
    | (gi_at_call 42; refine (C1 _).mono ?_; rintro e w' ⟨rfl, hw⟩; obtain rfl := hw.symm)
    | (gi_at_call 43; refine (C2 _ (below_alloc (below_alloc (below_alloc (Below.refl _ _) _) _) _)).mono ?_; rintro e w' ⟨rfl, hw⟩; obtain rfl := hw.symm)
    | (gi_at_call 45; refine (back_in (5 - 1) _ _ _ _).mono ?_; rintro e w' ⟨rfl, rfl⟩))
  obtain ⟨w4, hw4⟩ : ∃ w4, (((w.alloc (.cells #[.int .i64 A] 3)).alloc (.cells #[.int .i64 0] 3)).alloc (.cells #[.nilIface] 25)).alloc (.cells #[.slice a n cap] 31) = w4 := ⟨_, rfl⟩
  have hs4 : w4.heap.size = w.heap.size + 4 := by rw [← hw4]; simp
  have hB4 : Below w.heap.size w w4 := by rw [← hw4]; exact below_alloc (below_alloc (below_alloc (below_alloc (Below.refl _ _) _) _) _) _
  have bA : Boxed w4 w.heap.size 3 (.int .i64 A) := by rw [← hw4]; exact (((Boxed.new w 3 _).alloc _).alloc _).alloc _
  have bR : Boxed w4 (w.heap.size + 1) 3 (.int .i64 0) := by
    rw [← hw4]
    have := Boxed.new (w.alloc (.cells #[.int .i64 A] 3)) 3 (.int .i64 0)
    rw [World.size_alloc] at this
    exact (this.alloc _).alloc _
  have bE : Boxed w4 (w.heap.size + 2) 25 .nilIface := by
    rw [← hw4]
    have := Boxed.new ((w.alloc (.cells #[.int .i64 A] 3)).alloc (.cells #[.int .i64 0] 3)) 25 .nilIface
    rw [World.size_alloc, World.size_alloc] at this
    exact this.alloc _
  have bS : Boxed w4 (w.heap.size + 3) 31 (.slice a n cap) := by
    rw [← hw4]
    have := Boxed.new (((w.alloc (.cells #[.int .i64 A] 3)).alloc (.cells #[.int .i64 0] 3)).alloc (.cells #[.nilIface] 25)) 31 (.slice a n cap)
    rw [World.size_alloc, World.size_alloc, World.size_alloc] at this
    exact this
  rw [hw4]
  clear hw4
  have hLow : Low w4.heap.size w4 a L := fun j hj => by
    obtain ⟨b, o, e, hbl, hc⟩ := (hA.low.below hB4) j hj
    exact ⟨b, o, e, by omega, hc⟩
  have hbS := bS.cell
  rw [← hl] at hbS
  refine wpIn_rangeFunc_ownG hro (by omega) (gf := 53) (lb := #[.pointer (some ⟨w.heap.size + 3, 0, none⟩)]) rfl trivial (enters_of Tryd.func53 (by kernel_rfl) rfl)
    (back_stops (5 - 1) (by omega) (w.heap.size + 3) w4.heap.size a cap L (by omega) w4 (by omega) (Nat.le_refl _) hbS hLow) belowK_t (belowK_b (Nat.le_refl _)) (Below.refl _ _) (fun _ => rfl)
    (fun pre W => ((Ab A pre ∧ Boxed W w.heap.size 3 (.int .i64 A)) ∧ (Boxed W (w.heap.size + 1) 3 (.int .i64 0) ∧ Boxed W (w.heap.size + 2) 25 .nilIface)) ∧ Below w.heap.size w W)
    (fun c pre W => (c = .ret ∧ ∃ ini last, pre = ini ++ [last] ∧ Ab A ini ∧ last.2 ≤ A ∧ Boxed W (w.heap.size + 1) 3 (.int .i64 (last.1 : Int)) ∧ Boxed W (w.heap.size + 2) 25 .nilIface) ∧ Below w.heap.size w W)
    (OwnFrom.and (fun s X Y row hs hg hr => ⟨⟨hs.1.1, boxed_on hs.1.2 hg hr⟩, boxed_on hs.2.1 hg hr, boxed_on hs.2.2 hg hr⟩) (ownFrom_below (Nat.le_refl _) (by omega)))
    (fun c => OwnFrom.and (fun s X Y row hs hg hr => by obtain ⟨hc, ini, last, e1, e2, e3, e4, e5⟩ := hs; exact ⟨hc, ini, last, e1, e2, e3, boxed_on e4 hg hr, boxed_on e5 hg hr⟩) (ownFrom_below (Nat.le_refl _) (by omega)))
    ⟨⟨⟨Ab.nil A, bA⟩, bR, bE⟩, hB4⟩
    (fun x => { tmps := #[.int .i64 A, .slice a n cap, .pointer (some ⟨w.heap.size, 0, none⟩), undef, .pointer (some ⟨w.heap.size + 1, 0, none⟩), .pointer (some ⟨w.heap.size + 2, 0, none⟩), .int .i64 (x.1 : Int), .int .i64 x.2, .slice a n cap, .int .i64 (n : Int), .bool false, undef, .int .i64 A, .bool true, .bool false, .bool false, .slice a n cap, .bool true, .bool false, .bool false, undef, .slice a n cap, .func (.func 53) #[] #[.pointer (some ⟨w.heap.size + 3, 0, none⟩)], .int .i64 (x.1 : Int), .int .i64 x.2, undef, undef, undef, undef, undef], defers := [] }) ?assign ?body ?done ?stop
  case assign =>
    intro l x W K hK
    gi_wp2
    exact hK
  case body =>
    rintro l pre x W ⟨⟨⟨hp, bA⟩, bR, bE⟩, hB⟩ _
    have cA := bA.cell
    have cR := bR.cell
    have cE := bE.cell
    have fR := bR.frozen
    have fE := bE.frozen
    by_cases hx : x.2 ≤ A
    · have d : decide (x.2 ≤ A) = true := by simpa using hx
      have cE' : (W.setCell ⟨w.heap.size + 1, 0, none⟩ (.int .i64 (x.1 : Int))).cell? ⟨w.heap.size + 2, 0, none⟩ = some .nilIface := (bE.other (by omega) _).cell
      have fE' : (W.setCell ⟨w.heap.size + 1, 0, none⟩ (.int .i64 (x.1 : Int))).frozen? ⟨w.heap.size + 2, 0, none⟩ = false := (bE.other (by omega) _).frozen
      gi_wp2
      exact ⟨((KeepsOthers.setCell _ _ _).trans (KeepsOthers.setCell _ _ _)).from _, ⟨rfl, pre, x, rfl, hp, hx, (bR.set _).other (by omega) _, (bE.other (by omega) _).set _⟩, (hB.setCell (p := ⟨w.heap.size + 1, 0, none⟩) (by simp) _).setCell (p := ⟨w.heap.size + 2, 0, none⟩) (by simp) _⟩
    · have d : decide (x.2 ≤ A) = false := by simpa using hx
      gi_wp2
      exact ⟨KeepsFrom.refl _ _, Below.refl _ _, ⟨⟨hp.next (by omega), bA⟩, bR, bE⟩, hB⟩
  case done =>
    rintro D ys W hD rfl ⟨⟨⟨hp, bA⟩, bR, bE⟩, hB⟩ hK
    have cR := bR.cell
    have cE := bE.cell
    have fR := bR.frozen
    have fE := bE.frozen
    have cE' : (W.setCell ⟨w.heap.size + 1, 0, none⟩ (.int .i64 0)).cell? ⟨w.heap.size + 2, 0, none⟩ = some .nilIface := (bE.other (by omega) _).cell
    have fE' : (W.setCell ⟨w.heap.size + 1, 0, none⟩ (.int .i64 0)).frozen? ⟨w.heap.size + 2, 0, none⟩ = false := (bE.other (by omega) _).frozen
    gi_wp2
    obtain ⟨q1, q2⟩ := c_none hrf hp
    obtain ⟨W1, hW1⟩ : ∃ W1, (W.setCell ⟨w.heap.size + 1, 0, none⟩ (.int .i64 0)).setCell ⟨w.heap.size + 2, 0, none⟩ (.iface 67 (.int .i64 5)) = W1 := ⟨_, rfl⟩
    have hK1 : W1.heap[D]? = some (.deferred (some [])) := by rw [← hW1]; exact ((KeepsOthers.setCell _ _ _).trans (KeepsOthers.setCell _ _ _)).same D _ hK rfl
    have bR1 : Boxed W1 (w.heap.size + 1) 3 (.int .i64 0) := by rw [← hW1]; exact (bR.set _).other (by omega) _
    have bE1 : Boxed W1 (w.heap.size + 2) 25 (.iface 67 (.int .i64 5)) := by rw [← hW1]; exact (bE.other (by omega) _).set _
    have hB1 : Below w.heap.size w W1 := by rw [← hW1]; exact (hB.setCell (p := ⟨w.heap.size + 1, 0, none⟩) (by simp) _).setCell (p := ⟨w.heap.size + 2, 0, none⟩) (by simp) _
    have hgo : ∀ r, some D = some r → 0 ≤ r ∧ ∃ o : Obj, W1.heap[r]? = some o ∧ o.isCells = false := fun r e => by cases e; exact ⟨Nat.zero_le _, _, hK1, rfl⟩
    rw [hW1]
    refine ⟨by simp, .inl ⟨_, _, rfl, run_takeDeferred hK1, ?_⟩⟩
    have cR2 := (boxed_on bR1 (grownBy_putObj' W1 D (.deferred none)) hgo).cell
    have cE2 := (boxed_on bE1 (grownBy_putObj' W1 D (.deferred none)) hgo).cell
    refine ⟨.tuple #[.int .i64 0, .iface 67 (.int .i64 5)], ?_, by rw [q1, q2]; rfl, hB1.trans (belowK_b (w := w) (Nat.le_refl _) W1 D _ _ (by omega) hK1 rfl rfl)⟩
    simp [results, Tryd.f25, go_sem, cR2, cE2]
  case stop =>
    rintro D c pre W hD ⟨k, hk, rfl⟩ ⟨⟨rfl, ini, last, e1, e2, e3, e4, e5⟩, hB⟩ hK
    gi_wp2
    obtain ⟨q1, q2⟩ := c_some hrf hk e1 e2 e3
    have hgo : ∀ r, some D = some r → 0 ≤ r ∧ ∃ o : Obj, W.heap[r]? = some o ∧ o.isCells = false := fun r e => by cases e; exact ⟨Nat.zero_le _, _, hK, rfl⟩
    refine ⟨by simp, .inl ⟨_, _, rfl, run_takeDeferred hK, ?_⟩⟩
    have cR2 := (boxed_on e4 (grownBy_putObj' W D (.deferred none)) hgo).cell
    have cE2 := (boxed_on e5 (grownBy_putObj' W D (.deferred none)) hgo).cell
    refine ⟨.tuple #[.int .i64 (last.1 : Int), .nilIface], ?_, by rw [q1, q2]; rfl, hB.trans (belowK_b (w := w) (Nat.le_refl _) W D _ _ (by omega) hK rfl rfl)⟩
    simp [results, Tryd.f25, go_sem, cR2, cE2]
theorem choose_calls (A : Int) (a : Option Addr) (n cap : Nat) (L : List Int) (w : World) (hA : IArg w a n L) :
    Calls Tryd.prog 25 #[.int .i64 A, .slice a n cap] w fun e w' => e = .returned (.tuple #[.int .i64 (cv A L), errv (cf A L)]) ∧ Below w.heap.size w w' := by
  have hl := hA.2.1
  by_cases h : 4 < n
  · have e : rf A L 4 = 4 := rf_big (by omega)
    obtain ⟨q1, q2⟩ := c_err (A := A) (L := L) (by omega)
    refine (choose_big A a n cap w h hA.2.2).mono ?_
    rintro e' w' ⟨rfl, hb⟩
    exact ⟨by rw [q1, q2, e]; rfl, hb⟩
  by_cases hb : bad A = true
  · have e : rf A L 4 = 1 := rf_all (by omega) hb
    obtain ⟨q1, q2⟩ := c_err (A := A) (L := L) (by omega)
    refine (choose_all A a n cap w (by omega) hb).mono ?_
    rintro e' w' ⟨rfl, hb⟩
    exact ⟨by rw [q1, q2, e]; rfl, hb⟩
  have hb' : bad A = false := by simpa using hb
  by_cases hc : L.any bad = true
  · have e : rf A L 4 = 1 := rf_any (by omega) hc
    obtain ⟨q1, q2⟩ := c_err (A := A) (L := L) (by omega)
    refine (choose_any A a n cap L w (by omega) hA hb' hc).mono ?_
    rintro e' w' ⟨rfl, hb⟩
    exact ⟨by rw [q1, q2, e]; rfl, hb⟩
  have hc' : L.any bad = false := by simpa using hc
  exact callsIn_wide.1 (choose_in A a n cap L w (by omega) hA hb' hc')
end Go.Proofs.YtdoljkiklnaioagDoor.Rate
