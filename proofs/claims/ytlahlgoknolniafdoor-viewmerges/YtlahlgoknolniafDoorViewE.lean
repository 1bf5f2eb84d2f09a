/-
  What the functions Newer and Merge of package view return of any two views. They change nothing that was there.
-/
import Derived.Test.YtlahlgoknolniafDoorViewD
namespace Go.Proofs.YtlahlgoknolniafDoor.View
open Go.ChangeShapes Go.WideShapes Go.ChangeAt Go.RowKit Go.Proofs.YtlahlgoknolniafDoor.Mem Go.Proofs.YtlahlgoknolniafDoor.VM
set_option linter.unusedVariables false

/-- under way: nothing that was there has changed, and a row of members of the call's own -/
def MSt (w wr : World) (v : Value) (K : List Mb) : Prop := Below w.heap.size w wr ∧ wr.ownsRow w.heap.size 48 3 v K.length (mc K)
theorem MSt.alloc {w wr : World} {v : Value} {K : List Mb} (h : MSt w wr v K) (O : Obj) : MSt w (wr.alloc O) v K := ⟨below_alloc h.1 O, h.2.alloc O⟩
theorem MSt.below {w wr wx : World} {v : Value} {K : List Mb} (h : MSt w wr v K) (hb : Below wr.heap.size wr wx) : MSt w wx v K := ⟨h.1.trans (hb.mono h.1.size), own_below h.2 hb⟩
theorem MSt.more {w wr w' : World} {v v' : Value} {K : List Mb} (m : Mb) (h : MSt w wr v K) (ho : w'.ownsRow w.heap.size 48 3 v' (K.length + 1) (mc K ++ mc [m])) (hg : wr.grownBy w' v.ownBlock) : MSt w w' v' (K ++ [m]) := by
  refine ⟨h.1.grown hg h.1.size (fun j hj => (h.2.lt j hj).1), ?_⟩
  rw [List.length_append, List.length_singleton, mc_app]
  exact ho
/-- the same, and a member in its variable -/
def NSt (w wr : World) (v : Value) (K : List Mb) (B : Nat) (m : Mb) : Prop := MSt w wr v K ∧ MBox wr B m
theorem NSt.below {w wr wx : World} {v : Value} {K : List Mb} {B : Nat} {m : Mb} (h : NSt w wr v K B m) (hb : Below wr.heap.size wr wx) : NSt w wx v K B m := ⟨h.1.below hb, h.2.below hb h.2.lt⟩
theorem below_draws (w : World) (q : Nat) : Below w.heap.size w (w.drewN q) := ⟨rfl, rfl, rfl, Nat.le_refl _, fun _ _ => rfl⟩

set_option maxHeartbeats 4000000 in
set_option maxRecDepth 100000 in
theorem newer_good (a : Option Addr) (n cap : Nat) (A : List Mb) (p : Option Addr) (k cp : Nat) (B : List Mb) (w : World) (hA : MArg w a n A) (hB : MArg w p k B) (fA : Fit A) (fB : Fit B) :
    Calls Tryd.prog 18 #[.slice a n cap, .slice p k cp] w fun e w' => ∃ a' q c', e = .returned (.tuple #[.slice a' q c', .nilIface]) ∧ MArg w' a' q (newer A B) ∧ q ≤ c' ∧ (a' = none → q = 0 ∧ c' = 0) ∧ Below w.heap.size w w' := by
  have hlA := hA.2.1
  have hlB := hB.2.1
  have hn16 := fA.len
  have hk16 := fB.len
  have C1 := check_calls a n cap A w hA
  rw [fit_iff.2 fA, errv_zero] at C1
  have HC1 := hidden C1
  have HC2 : Hid (∀ W, Below w.heap.size w W → Calls Tryd.prog 14 #[.slice p k cp] W fun e w' => e = .returned .nilIface ∧ Below W.heap.size W w') := fun W hW => by
    have := check_calls p k cp B W (hB.below hW)
    rw [fit_iff.2 fB, errv_zero] at this
    exact this
  have HF : Hid (∀ W (x : Int), Below w.heap.size w W → 0 ≤ x → x ≤ 15 → Calls Tryd.prog 30 #[.slice a n cap, .int .i64 x] W fun e w' => e = .returned (.tuple #[.int .i64 (pl A x : Nat), .bool (fd A x)]) ∧ Below W.heap.size W w') := fun W x hW h0 h1 => find_calls a n cap A x W (hA.below hW) fA h0 h1
  have HA := hidden hA
  have HB := hidden hB
  have HFA := hidden fA
  have HFB := hidden fB
  have HE : Hid (newer A B = (B.take k).filter (nw A)) := by unfold Hid newer; rw [← hlB, List.take_length]
  generalize newer A B = R at *
  clear C1 hA hB fA fB
  obtain ⟨i0, hii, hz0, hz1, hz2⟩ := info_parts infoMB
  go_enter Tryd.func18, Tryd.ntmps18
  go_wp2_with fail
  refine HC1.out.mono ?_
  rintro e w1 ⟨rfl, hb1⟩
  have HB1 := hidden hb1
  clear hb1 HC1
  go_wp2_with fail
  refine (HC2.out _ HB1.out).mono ?_
  rintro e w2 ⟨rfl, hb2⟩
  have HS0 : Hid (MSt w w2 (.slice none 0 0) ((B.take 0).filter (nw A))) := ⟨HB1.out.trans (hb2.mono HB1.out.size), World.ownsRow_nil _ _ _ _⟩
  clear hb2 HB1 HC2
  go_wp2_with fail
  go_loopg [8, 25] k (fun g x y wr => ∃ (j : Nat) (v : Value), j + g = k ∧ v = x ∧ y = .int .i64 (j : Int) ∧ Hid (MSt w wr v ((B.take j).filter (nw A))))
  case atStart => exact ⟨0, _, by omega, rfl, rfl, HS0⟩
  case round =>
    obtain ⟨j, v, hjg, rfl, rfl, HS⟩ := hrel
    by_cases hj : j < k
    · have hjz : (j : Int) < (k : Int) := by omega
      obtain ⟨b, o, rfl, hbl, hcs⟩ := (HB.out.below HS.out.1).at (by omega)
      obtain ⟨c0, c1, c2⟩ := hcs j hj
      have ht := take_snoc (L := B) (j := j) (by omega)
      have hbd := fit_get HFB.out (t := j) (by omega)
      obtain ⟨m, hm⟩ : ∃ m, B.getD j zz = m := ⟨_, rfl⟩
      rw [hm] at c0 c1 c2 ht hbd
      clear hm hcs
      have hal : (B.take (j + 1)).filter (nw A) = (B.take j).filter (nw A) ++ (if nw A m then [m] else []) := by
        rw [ht, List.filter_append]
        cases e : nw A m <;> simp [List.filter, e]
      have hKl : ((B.take j).filter (nw A)).length ≤ j := by
        have h1 := List.length_filter_le (nw A) (B.take j)
        rw [List.length_take] at h1
        omega
      clear ht
      generalize (B.take j).filter (nw A) = K at *
      have HF1 := hidden (fun W hW => HF.out W m.n hW hbd.1 hbd.2)
      have HS1 : Hid (NSt w (wr.alloc (.cells #[.int .i64 m.n, .int .i64 m.v, .bool m.u] 48)) v K wr.heap.size m) := ⟨HS.out.alloc _, MBox.new wr m⟩
      have hlk := lk_fd HFA.out.ris m.n
      have hpl := pl_le A m.n
      generalize hfd : fd A m.n = r at *
      generalize hP : pl A m.n = P at *
      have hPn : r = true → P < n := fun hr => by
        rw [hr] at hfd
        unfold fd at hfd
        simp only [Bool.and_eq_true, decide_eq_true_eq] at hfd
        omega
      clear hfd hP
      obtain ⟨t, ht⟩ : ∃ t, nw A m = t := ⟨_, rfl⟩
      rw [ht] at hal
      have HT := hidden ht
      have HAL := hidden hal
      clear ht hal
      obtain ⟨x, y, u⟩ := m
      simp only at c0 c1 c2 HF1 HS1 hlk
      go_wp2_with fail
      refine (HF1.out _ HS1.out.1.1).mono ?_
      rintro e w3 ⟨rfl, hb3⟩
      have HS3 : Hid (NSt w w3 v K wr.heap.size ⟨x, y, u⟩) := HS1.out.below hb3
      clear hb3 HS1 HF1 HS c0 c1 c2
      obtain ⟨c0, c1, c2⟩ := HS3.out.2.cells
      simp only at c0 c1 c2
      go_upto_region 12 with fail
      go_cut [45] from 36 to 45 (fun s wx => s = .bool t ∧ Hid (NSt w wx v K wr.heap.size ⟨x, y, u⟩))
      case first =>
        cases r with
        | false =>
          have HTt : Hid (true = t) := by
            rw [← HT.out]
            exact (nw_none (by rw [hlk]; rfl)).symm
          clear hlk hPn HT
          go_quiet (fail)
          go_wp2_with fail
          go_meet
          exact ⟨congrArg Value.bool HTt.out, hidden (HS3.out.below (below_draws _ _))⟩
        | true =>
          have hPn := hPn rfl
          obtain ⟨b2, o2, rfl, hbl2, hcs⟩ := (HA.out.below HS3.out.1.1).at (by omega)
          obtain ⟨d0, d1, d2⟩ := hcs P hPn
          obtain ⟨q, hq⟩ : ∃ q, A.getD P zz = q := ⟨_, rfl⟩
          rw [hq] at d0 d1 d2 hlk
          clear hq hcs
          obtain ⟨x', y', u'⟩ := q
          simp only at d0 d1 d2
          have HTt : Hid (ov ⟨x, y, u⟩ ⟨x', y', u'⟩ = t) := by
            rw [← HT.out]
            exact (nw_some (m := ⟨x, y, u⟩) (by rw [hlk]; rfl)).symm
          have hPz : (P : Int) < (n : Int) := by omega
          have HOV : Hid (∀ W, (W.cell? ⟨wr.heap.size, 0, none⟩ = some (.int .i64 x) ∧ W.cell? ⟨wr.heap.size, 1, none⟩ = some (.int .i64 y) ∧ W.cell? ⟨wr.heap.size, 2, none⟩ = some (.bool u) ∧ W.cell? ⟨b2, o2 + P * 3, none⟩ = some (.int .i64 x') ∧ W.cell? ⟨b2, o2 + P * 3 + 1, none⟩ = some (.int .i64 y') ∧ W.cell? ⟨b2, o2 + P * 3 + 2, none⟩ = some (.bool u') ∧ Hid (NSt w W v K wr.heap.size ⟨x, y, u⟩)) → Calls Tryd.prog 31 #[.agg #[.int .i64 x, .int .i64 y, .bool u], .agg #[.int .i64 x', .int .i64 y', .bool u']] W fun e w' => e = .returned (.bool t) ∧ (w'.cell? ⟨wr.heap.size, 0, none⟩ = some (.int .i64 x) ∧ w'.cell? ⟨wr.heap.size, 1, none⟩ = some (.int .i64 y) ∧ w'.cell? ⟨wr.heap.size, 2, none⟩ = some (.bool u) ∧ w'.cell? ⟨b2, o2 + P * 3, none⟩ = some (.int .i64 x') ∧ w'.cell? ⟨b2, o2 + P * 3 + 1, none⟩ = some (.int .i64 y') ∧ w'.cell? ⟨b2, o2 + P * 3 + 2, none⟩ = some (.bool u') ∧ Hid (NSt w w' v K wr.heap.size ⟨x, y, u⟩))) := by
            refine hidden ?_
            rintro W ⟨_, _, _, e0, e1, e2, hS⟩
            refine (over_calls ⟨x, y, u⟩ ⟨x', y', u'⟩ W).mono ?_
            rintro e w' ⟨rfl, hb⟩
            have hS' := hS.out.below hb
            obtain ⟨g0, g1, g2⟩ := hS'.2.cells
            exact ⟨by rw [HTt.out], g0, g1, g2, (hb.cell (World.block_lt_of_cell? W _ e0)).trans e0, (hb.cell (World.block_lt_of_cell? W _ e1)).trans e1, (hb.cell (World.block_lt_of_cell? W _ e2)).trans e2, hidden hS'⟩
          have hS0 : (w3.drew.cell? ⟨wr.heap.size, 0, none⟩ = some (.int .i64 x) ∧ w3.drew.cell? ⟨wr.heap.size, 1, none⟩ = some (.int .i64 y) ∧ w3.drew.cell? ⟨wr.heap.size, 2, none⟩ = some (.bool u) ∧ w3.drew.cell? ⟨b2, o2 + P * 3, none⟩ = some (.int .i64 x') ∧ w3.drew.cell? ⟨b2, o2 + P * 3 + 1, none⟩ = some (.int .i64 y') ∧ w3.drew.cell? ⟨b2, o2 + P * 3 + 2, none⟩ = some (.bool u') ∧ Hid (NSt w w3.drew v K wr.heap.size ⟨x, y, u⟩)) := ⟨c0, c1, c2, d0, d1, d2, hidden (HS3.out.below (below_draws w3 1))⟩
          clear HTt hlk HT d0 d1 d2 c0 c1 c2
          go_region_held3 (fun w' => w'.cell? ⟨wr.heap.size, 0, none⟩ = some (.int .i64 x) ∧ w'.cell? ⟨wr.heap.size, 1, none⟩ = some (.int .i64 y) ∧ w'.cell? ⟨wr.heap.size, 2, none⟩ = some (.bool u) ∧ w'.cell? ⟨b2, o2 + P * 3, none⟩ = some (.int .i64 x') ∧ w'.cell? ⟨b2, o2 + P * 3 + 1, none⟩ = some (.int .i64 y') ∧ w'.cell? ⟨b2, o2 + P * 3 + 2, none⟩ = some (.bool u') ∧ Hid (NSt w w' v K wr.heap.size ⟨x, y, u⟩)) (with_reducible assumption) (first | (go_at_call 31; refine (HOV.out _ (by with_reducible assumption)).mono ?_; rintro e w4 ⟨rfl, hS4⟩))
          go_wp2_with fail
          go_meet
          exact ⟨rfl, hS4.2.2.2.2.2.2⟩
      case rest =>
      obtain ⟨rfl, HSc⟩ := hcut
      clear HT hlk hPn HS3 c0 c1 c2
      cases t with
      | false =>
        have HAL' : Hid ((B.take (j + 1)).filter (nw A) = K) := by rw [HAL.out]; unfold Hid; simp
        clear HAL
        go_wp2_with fail
        go_roundg (k - (j + 1))
        case measure => omega
        case rel => exact ⟨j + 1, v, by omega, rfl, by go_num, by rw [HAL'.out]; exact hidden HSc.out.1⟩
      | true =>
        have HAL' : Hid ((B.take (j + 1)).filter (nw A) = K ++ [⟨x, y, u⟩]) := by rw [HAL.out]; unfold Hid; simp
        clear HAL
        obtain ⟨c0, c1, c2⟩ := HSc.out.2.cells
        simp only at c0 c1 c2
        have HS5 : Hid (MSt w (wc.alloc (.cells #[.int .i64 x, .int .i64 y, .bool u] 48)) v K) := HSc.out.1.alloc _
        have HN5 := hidden (MBox.new wc ⟨x, y, u⟩).news
        have hm1 : (mc [⟨x, y, u⟩]).length = 1 * 3 := rfl
        go_wp2_with (at_builtin; refine wpList_append_own _ rfl _ _ 43 rfl w.heap.size 48 i0 _ 3 24 Tryd.underlying43 hii hz0 hz1 hz2 rfl (by decide) _ K.length (mc K) rfl HS5.out.2 ⟨wc.heap.size, 0, none⟩ 1 1 (mc [⟨x, y, u⟩]) rfl hm1 HN5.out (mc_cell _) ?b1 ?b2 ?b3 ?next)
        case b1 => unfold maxLen; omega
        case b2 => omega
        case b3 => have := HS5.out.1.size; simpa using this
        case next =>
        intro v1 w' hown hgrow _
        have HS2 : Hid (MSt w w' v1 (K ++ [⟨x, y, u⟩])) := HS5.out.more ⟨x, y, u⟩ hown hgrow
        clear hown hgrow
        go_wp2_with fail
        go_roundg (k - (j + 1))
        case measure => omega
        case rel => exact ⟨j + 1, v1, by omega, rfl, by go_num, by rw [HAL'.out]; exact HS2⟩
    · have hjz : ¬ (j : Int) < (k : Int) := by omega
      have ej : j = k := by omega
      subst ej
      have hs := HS.out
      rw [← HE.out] at hs
      have hR : R.length ≤ 9223372036854775807 := by
        rw [HE.out]
        have h1 := List.length_filter_le (nw A) (B.take j)
        rw [List.length_take] at h1
        omega
      obtain ⟨a', c', rfl, hI, hnn, hkc, _⟩ := own_mbs hs.2 hR
      have HI := hidden (And.intro hI (And.intro hkc (And.intro hnn hs.1)))
      clear hI hs hR HS hkc hnn
      go_wp2_with fail
      go_ret2
      exact ⟨a', _, c', rfl, HI.out.1, HI.out.2.1, HI.out.2.2.1, HI.out.2.2.2⟩
set_option maxHeartbeats 1000000 in
set_option maxRecDepth 100000 in
theorem newer_calls (a : Option Addr) (n cap : Nat) (A : List Mb) (p : Option Addr) (k cp : Nat) (B : List Mb) (w : World) (hA : MArg w a n A) (hB : MArg w p k B) :
    Calls Tryd.prog 18 #[.slice a n cap, .slice p k cp] w fun e w' => ∃ a' q c', e = .returned (.tuple #[.slice a' q c', errv (mf A B)]) ∧ MArg w' a' q (nwd A B) ∧ q ≤ c' ∧ (a' = none → q = 0 ∧ c' = 0) ∧ Below w.heap.size w w' := by
  by_cases hz : mf A B = 0
  · obtain ⟨fA, fB⟩ := mf_fit.1 hz
    unfold nwd
    rw [if_pos hz, hz, errv_zero]
    exact newer_good a n cap A p k cp B w hA hB fA fB
  · unfold nwd
    rw [if_neg hz]
    have HC1 := hidden (check_calls a n cap A w hA)
    have HC2 : Hid (∀ W, Below w.heap.size w W → Calls Tryd.prog 14 #[.slice p k cp] W fun e w' => e = .returned (errv (vf B)) ∧ Below W.heap.size W w') := fun W hW => check_calls p k cp B W (hB.below hW)
    clear hA hB
    by_cases h1 : vf A = 0
    · have hm : mf A B = vf B := by unfold mf; rw [if_pos h1]
      rw [hm] at hz ⊢
      rw [h1, errv_zero] at HC1
      generalize vf B = f at *
      have hcmp := cmp_ne f
      have hgrd := grd_ne f
      have d : decide (f = 0) = false := by simpa using hz
      rw [d] at hcmp
      generalize errv f = ev at *
      clear hm h1
      go_enter Tryd.func18, Tryd.ntmps18
      go_wp2_with fail
      refine HC1.out.mono ?_
      rintro e w1 ⟨rfl, hb1⟩
      have HB1 := hidden hb1
      clear hb1 HC1
      go_wp2_with fail
      refine (HC2.out _ HB1.out).mono ?_
      rintro e w2 ⟨rfl, hb2⟩
      have HB2 : Hid (Below w.heap.size w w2) := HB1.out.trans (hb2.mono HB1.out.size)
      clear hb2 HC2
      go_wp2_with fail
      go_ret2
      exact ⟨none, 0, 0, rfl, MArg.nil _ _, Nat.le_refl _, fun _ => ⟨rfl, rfl⟩, HB2.out⟩
    · have hm : mf A B = vf A := by unfold mf; rw [if_neg h1]
      rw [hm] at hz ⊢
      generalize vf A = f at *
      have hcmp := cmp_ne f
      have hgrd := grd_ne f
      have d : decide (f = 0) = false := by simpa using hz
      rw [d] at hcmp
      generalize errv f = ev at *
      clear hm h1 HC2
      go_enter Tryd.func18, Tryd.ntmps18
      go_wp2_with fail
      refine HC1.out.mono ?_
      rintro e w1 ⟨rfl, hb1⟩
      have HB1 := hidden hb1
      clear hb1 HC1
      go_wp2_with fail
      go_ret2
      exact ⟨none, 0, 0, rfl, MArg.nil _ _, Nat.le_refl _, fun _ => ⟨rfl, rfl⟩, HB1.out⟩

theorem fit_fold {T a : List Mb} (ha : Fit a) (ht : ∀ m ∈ T, okm m = true) : Fit (T.foldl VM.put a) :=
  Fit.mk2 (fold_ris _ ha.ris) fun x hx => by
    rcases fold_mem _ hx with h | h
    · exact ht x h
    · exact ha.ok x h
set_option maxHeartbeats 4000000 in
set_option maxRecDepth 100000 in
theorem merge_good (a : Option Addr) (n cap : Nat) (A : List Mb) (p : Option Addr) (k cp : Nat) (B : List Mb) (w : World) (hA : MArg w a n A) (hnA : a = none → n = 0 ∧ cap = 0) (hB : MArg w p k B) (fA : Fit A) (fB : Fit B) :
    Calls Tryd.prog 17 #[.slice a n cap, .slice p k cp] w fun e w' => ∃ a' q c', e = .returned (.tuple #[.slice a' q c', .nilIface]) ∧ MArg w' a' q (mrg A B) ∧ q ≤ c' ∧ (a' = none → q = 0 ∧ c' = 0) ∧ Below w.heap.size w w' := by
  have hlA := hA.2.1
  have hn16 := fA.len
  have HN := hidden (newer_good a n cap A p k cp B w hA hB fA fB)
  have HC : Hid (∀ W, Below w.heap.size w W → Calls Tryd.prog 28 #[.slice a n cap] W fun e w' => ∃ v', e = .returned v' ∧ w'.ownsRow W.heap.size 48 3 v' n (mc A) ∧ Below W.heap.size W w') := fun W hW => copyOf_calls a n cap A W (hA.below hW) hnA (by omega)
  have HR := hidden (fit_mrg fA fB).len
  have HE : Hid (mrg A B = ((newer A B).take (newer A B).length).foldl VM.put A) := by unfold Hid mrg; rw [List.take_length]
  have HFN := hidden (fit_newer (a := A) fB)
  have HFA := hidden fA
  generalize mrg A B = R at *
  generalize newer A B = T at *
  clear hA hB fA fB hnA
  go_enter Tryd.func17, Tryd.ntmps17
  go_wp2_with fail
  refine HN.out.mono ?_
  rintro e w1 ⟨a1, q, c1, rfl, hT, _, _, hb1⟩
  have hq : T.length = q := hT.2.1
  have HT := hidden hT
  have HB1 := hidden hb1
  clear hT hb1 HN
  go_wp2_with fail
  refine (HC.out _ HB1.out).mono ?_
  rintro e w2 ⟨v2, rfl, ho2, hb2⟩
  have HS0 : Hid (MSt w1 w2 v2 ((T.take 0).foldl VM.put A) ∧ Fit ((T.take 0).foldl VM.put A)) := ⟨⟨hb2, by rw [List.take_zero, List.foldl_nil, hlA]; exact ho2⟩, HFA.out⟩
  clear ho2 hb2 HC
  have h16 : T.length ≤ 16 := HFN.out.len
  go_wp2_with fail
  go_loopg [8, 24] q (fun g x y wr => ∃ (j : Nat) (v : Value), j + g = q ∧ v = x ∧ y = .int .i64 (j : Int) ∧ Hid (MSt w1 wr v ((T.take j).foldl VM.put A) ∧ Fit ((T.take j).foldl VM.put A)))
  case atStart => exact ⟨0, _, by omega, rfl, rfl, HS0⟩
  case round =>
    obtain ⟨j, v, hjg, rfl, rfl, HS⟩ := hrel
    by_cases hj : j < q
    · have hjz : (j : Int) < (q : Int) := by omega
      obtain ⟨b, o, rfl, hbl, hcs⟩ := (HT.out.below HS.out.1.1).at (by omega)
      obtain ⟨c0, c1, c2⟩ := hcs j hj
      have ht := take_snoc (L := T) (j := j) (by omega)
      have hok := HFN.out.ok (T.getD j zz) (by rw [List.getD_eq_getElem?_getD, List.getElem?_eq_getElem (by omega)]; exact List.getElem_mem _)
      obtain ⟨m, hm⟩ : ∃ m, T.getD j zz = m := ⟨_, rfl⟩
      rw [hm] at c0 c1 c2 ht hok
      clear hm hcs
      have hal : (T.take (j + 1)).foldl VM.put A = VM.put ((T.take j).foldl VM.put A) m := by rw [ht, List.foldl_append]; rfl
      have HAL := hidden hal
      clear ht hal
      generalize (T.take j).foldl VM.put A = K at *
      have HS1 : Hid (MSt w1 (wr.alloc (.cells #[.int .i64 m.n, .int .i64 m.v, .bool m.u] 48)) v K) := HS.out.1.alloc _
      have HP := hidden (put_calls v w1.heap.size K.length K m _ HS1.out.2 HS1.out.1.size HS.out.2 hok)
      have HFK : Hid (Fit (VM.put K m)) := HS.out.2.put hok
      obtain ⟨x, y, u⟩ := m
      unfold mv at HP
      simp only at c0 c1 c2 HP HS1
      clear HS
      generalize VM.put K ⟨x, y, u⟩ = K2 at *
      go_wp2_with fail
      refine HP.out.mono ?_
      rintro e w3 ⟨v3, rfl, ho3, hg3⟩
      have HS3 : Hid (MSt w1 w3 v3 K2 ∧ Fit K2) := ⟨⟨HS1.out.1.grown hg3 HS1.out.1.size (fun j hj => (HS1.out.2.lt j hj).1), ho3⟩, HFK.out⟩
      clear ho3 hg3 HS1 HP
      go_wp2_with fail
      go_roundg (q - (j + 1))
      case measure => omega
      case rel => exact ⟨j + 1, v3, by omega, rfl, by go_num, by rw [HAL.out]; exact HS3⟩
    · have hjz : ¬ (j : Int) < (q : Int) := by omega
      have ej : j = q := by omega
      subst ej
      have hs := HS.out.1
      rw [← hq, ← HE.out] at hs
      obtain ⟨a', c', rfl, hI, hnn, hkc, _⟩ := own_mbs hs.2 (by have := HR.out; omega)
      have HI := hidden (And.intro hI (And.intro hkc (And.intro hnn (HB1.out.trans (hs.1.mono HB1.out.size)))))
      clear hI hs HS hkc hnn
      go_wp2_with fail
      go_ret2
      exact ⟨a', _, c', rfl, HI.out.1, HI.out.2.1, HI.out.2.2.1, HI.out.2.2.2⟩
set_option maxHeartbeats 1000000 in
set_option maxRecDepth 100000 in
theorem merge_calls (a : Option Addr) (n cap : Nat) (A : List Mb) (p : Option Addr) (k cp : Nat) (B : List Mb) (w : World) (hA : MArg w a n A) (hnA : a = none → n = 0 ∧ cap = 0) (hB : MArg w p k B) :
    Calls Tryd.prog 17 #[.slice a n cap, .slice p k cp] w fun e w' => ∃ a' q c', e = .returned (.tuple #[.slice a' q c', errv (mf A B)]) ∧ MArg w' a' q (mgd A B) ∧ q ≤ c' ∧ (a' = none → q = 0 ∧ c' = 0) ∧ Below w.heap.size w w' := by
  by_cases hz : mf A B = 0
  · obtain ⟨fA, fB⟩ := mf_fit.1 hz
    unfold mgd
    rw [if_pos hz, hz, errv_zero]
    exact merge_good a n cap A p k cp B w hA hnA hB fA fB
  · have HN := hidden (newer_calls a n cap A p k cp B w hA hB)
    unfold mgd
    rw [if_neg hz]
    generalize mf A B = f at *
    have hcmp := cmp_ne f
    have hgrd := grd_ne f
    have d : decide (f = 0) = false := by simpa using hz
    rw [d] at hcmp
    generalize errv f = ev at *
    clear hA hB hnA hz
    go_enter Tryd.func17, Tryd.ntmps17
    go_wp2_with fail
    refine HN.out.mono ?_
    rintro e w1 ⟨a1, q, c1, rfl, _, _, _, hb1⟩
    have HB1 := hidden hb1
    clear hb1 HN
    go_wp2_with fail
    go_ret2
    exact ⟨none, 0, 0, rfl, MArg.nil _ _, Nat.le_refl _, fun _ => ⟨rfl, rfl⟩, HB1.out⟩
end Go.Proofs.YtlahlgoknolniafDoor.View
