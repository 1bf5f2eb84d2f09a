/-
  What the function Bump of package view returns of any view and any node; what the function Members of package choirsame returns of two rows of the same members. They change nothing that was there.
-/
import Derived.Test.YtlahlgoknolniafDoorViewE
import Derived.Laws.StructEq
namespace Go.Proofs.YtlahlgoknolniafDoor.View
open Go.ChangeShapes Go.WideShapes Go.ChangeAt Go.RowKit Go.Proofs.YtlahlgoknolniafDoor.Mem Go.Proofs.YtlahlgoknolniafDoor.VM
set_option linter.unusedVariables false

theorem MBox.setV {w : World} {B : Nat} {m : Mb} (h : MBox w B m) (y : Int) : MBox (w.setCell ⟨B, 1, none⟩ (.int .i64 y)) B ⟨m.n, y, m.u⟩ := by
  unfold MBox at h ⊢
  rw [heap_setCell_same w B 1 _ _ _ h]
  rfl
theorem MBox.ne {w : World} {B : Nat} {m : Mb} (h : MBox w B m) {base n : Nat} {v : Value} {xs : List Value} (ho : w.ownsRow base 48 3 v n xs) (hb : B < base) : some B ≠ v.ownBlock := fun e => by
  have := (ho.lt B e.symm).1
  omega
/-- Bump under way: nothing that was there has changed, and the one told anew in its variable -/
def BSt (w wr : World) (B : Nat) (m : Mb) : Prop := Below w.heap.size w wr ∧ MBox wr B m ∧ w.heap.size ≤ B
theorem BSt.below {w wr wx : World} {B : Nat} {m : Mb} (h : BSt w wr B m) (hb : Below wr.heap.size wr wx) : BSt w wx B m := ⟨h.1.trans (hb.mono h.1.size), h.2.1.below hb h.2.1.lt, h.2.2⟩
theorem BSt.setV {w wr : World} {B : Nat} {m : Mb} (h : BSt w wr B m) (y : Int) : BSt w (wr.setCell ⟨B, 1, none⟩ (.int .i64 y)) B ⟨m.n, y, m.u⟩ :=
  ⟨(Only.below (((Only.of_below h.1 [B])).setCell (by simp) _) (Nat.le_refl _) (by simp; exact h.2.2)), h.2.1.setV y, h.2.2⟩
theorem BSt.grown {w wr wx : World} {B base n : Nat} {m : Mb} {v : Value} {xs : List Value} (h : BSt w wr B m) (ho : wr.ownsRow base 48 3 v n xs) (hg : wr.grownBy wx v.ownBlock) (hB : B < base) : BSt w wx B m :=
  ⟨h.1.grown hg h.1.size (fun j hj => by have := (ho.lt j hj).1; have := h.2.2; omega), (hg.block B h.2.1.lt (h.2.1.ne ho hB)).trans h.2.1, h.2.2⟩

set_option maxHeartbeats 4000000 in
set_option maxRecDepth 100000 in
theorem bump_good (a : Option Addr) (n cap : Nat) (L : List Mb) (x : Int) (u : Bool) (w : World) (hA : MArg w a n L) (hnA : a = none → n = 0 ∧ cap = 0) (hz : bf L x = 0) :
    Calls Tryd.prog 22 #[.slice a n cap, .int .i64 x, .bool u] w fun e w' => ∃ a' q c', e = .returned (.tuple #[.slice a' q c', .nilIface]) ∧ MArg w' a' q (VM.put L (bm L x u)) ∧ q ≤ c' ∧ (a' = none → q = 0 ∧ c' = 0) ∧ Below w.heap.size w w' := by
  obtain ⟨fL, x0, x1, hv⟩ := bf_zero hz
  have hl := hA.2.1
  have hn16 := fL.len
  have C1 := check_calls a n cap L w hA
  rw [fit_iff.2 fL, errv_zero] at C1
  have HC1 := hidden C1
  have C2 := fun W => isNode_calls x W
  rw [decide_eq_true (show 0 ≤ x ∧ x ≤ 15 from ⟨x0, x1⟩)] at C2
  have HC2 := hidden C2
  have HC : Hid (∀ W, Below w.heap.size w W → Calls Tryd.prog 28 #[.slice a n cap] W fun e w' => ∃ v', e = .returned v' ∧ w'.ownsRow W.heap.size 48 3 v' n (mc L) ∧ Below W.heap.size W w') := fun W hW => copyOf_calls a n cap L W (hA.below hW) hnA (by omega)
  have HF : Hid (∀ W, Below w.heap.size w W → Calls Tryd.prog 30 #[.slice a n cap, .int .i64 x] W fun e w' => e = .returned (.tuple #[.int .i64 (pl L x : Nat), .bool (fd L x)]) ∧ Below W.heap.size W w') := fun W hW => find_calls a n cap L x W (hA.below hW) fL x0 x1
  have HOK0 := hidden (bm_ok u hz)
  have HFL := hidden fL
  have HRL : Hid ((VM.put L (bm L x u)).length ≤ 16) := (put_fit u hz).len
  obtain ⟨R, hR⟩ : ∃ R, VM.put L (bm L x u) = R := ⟨_, rfl⟩
  have HR0 := hidden hR
  rw [hR] at HRL ⊢
  clear hR C1 C2
  have HA := hidden hA
  have hlk := lk_fd fL.ris x
  have hPn : fd L x = true → pl L x < n := fun hr => by
    unfold fd at hr
    simp only [Bool.and_eq_true, decide_eq_true_eq] at hr
    omega
  clear hA hnA fL
  generalize fd L x = r at *
  generalize pl L x = P at *
  cases r with
  | false =>
    have hver : ver L x = 0 := ver_none (by rw [hlk]; rfl)
    have hbm : bm L x u = ⟨x, 1, u⟩ := by unfold bm; rw [hver]; rfl
    have HOK : Hid (okm ⟨x, 1, u⟩ = true) := by rw [← hbm]; exact HOK0
    have HR : Hid (R = VM.put L ⟨x, 1, u⟩) := by rw [← hbm]; exact HR0.out.symm
    clear hver hbm hlk hPn HOK0 HR0
    go_enter Tryd.func22, Tryd.ntmps22
    go_wp2_with fail
    refine HC1.out.mono ?_
    rintro e w1 ⟨rfl, hb1⟩
    have HB1 := hidden hb1
    clear hb1 HC1
    go_wp2_with fail
    refine (HC2.out _).mono ?_
    rintro e w2 ⟨rfl, rfl⟩
    have HS2 : Hid (BSt w (w2.alloc (.cells #[.int .i64 x, .int .i64 1, .bool u] 48)) w2.heap.size ⟨x, 1, u⟩) := ⟨below_alloc HB1.out _, MBox.new w2 ⟨x, 1, u⟩, HB1.out.size⟩
    go_wp2_with fail
    refine (HF.out _ HS2.out.1).mono ?_
    rintro e w4 ⟨rfl, hb4⟩
    have HS5 : Hid (BSt w w4 w2.heap.size ⟨x, 1, u⟩) := HS2.out.below hb4
    clear hb4 HS2 HF HC2
    have HCO : Hid (∀ W, (W.cell? ⟨w2.heap.size, 0, none⟩ = some (.int .i64 x) ∧ W.cell? ⟨w2.heap.size, 1, none⟩ = some (.int .i64 1) ∧ W.cell? ⟨w2.heap.size, 2, none⟩ = some (.bool u) ∧ Hid (BSt w W w2.heap.size ⟨x, 1, u⟩)) → Calls Tryd.prog 28 #[.slice a n cap] W fun e w' => ∃ v', e = .returned v' ∧ (w'.cell? ⟨w2.heap.size, 0, none⟩ = some (.int .i64 x) ∧ w'.cell? ⟨w2.heap.size, 1, none⟩ = some (.int .i64 1) ∧ w'.cell? ⟨w2.heap.size, 2, none⟩ = some (.bool u) ∧ Hid (BSt w w' w2.heap.size ⟨x, 1, u⟩)) ∧ Hid (∃ base, w2.heap.size < base ∧ base ≤ w'.heap.size ∧ w'.ownsRow base 48 3 v' n (mc L))) := by
      refine hidden ?_
      rintro W ⟨_, _, _, hS⟩
      refine (HC.out W hS.out.1).mono ?_
      rintro e w' ⟨v', rfl, ho, hb⟩
      have hS' := hS.out.below hb
      obtain ⟨g0, g1, g2⟩ := hS'.2.1.cells
      exact ⟨v', rfl, ⟨g0, g1, g2, hidden hS'⟩, hidden ⟨W.heap.size, hS.out.2.1.lt, hb.size, ho⟩⟩
    have HPU : Hid (∀ W v', (W.cell? ⟨w2.heap.size, 0, none⟩ = some (.int .i64 x) ∧ W.cell? ⟨w2.heap.size, 1, none⟩ = some (.int .i64 1) ∧ W.cell? ⟨w2.heap.size, 2, none⟩ = some (.bool u) ∧ Hid (BSt w W w2.heap.size ⟨x, 1, u⟩)) → Hid (∃ base, w2.heap.size < base ∧ base ≤ W.heap.size ∧ W.ownsRow base 48 3 v' n (mc L)) → Calls Tryd.prog 29 #[v', .agg #[.int .i64 x, .int .i64 1, .bool u]] W fun e w' => ∃ v2, e = .returned v2 ∧ (w'.cell? ⟨w2.heap.size, 0, none⟩ = some (.int .i64 x) ∧ w'.cell? ⟨w2.heap.size, 1, none⟩ = some (.int .i64 1) ∧ w'.cell? ⟨w2.heap.size, 2, none⟩ = some (.bool u) ∧ Hid (BSt w w' w2.heap.size ⟨x, 1, u⟩)) ∧ Hid (∃ base, w'.ownsRow base 48 3 v2 R.length (mc R))) := by
      refine hidden ?_
      rintro W v' ⟨_, _, _, hS⟩ ho
      obtain ⟨base, hBb, hbw, ho⟩ := ho.out
      refine (put_calls v' base n L ⟨x, 1, u⟩ W ho hbw HFL.out HOK.out).mono ?_
      rintro e w' ⟨v2, rfl, ho2, hg2⟩
      have hS' := hS.out.grown ho hg2 hBb
      obtain ⟨g0, g1, g2⟩ := hS'.2.1.cells
      rw [← HR.out] at ho2
      exact ⟨v2, rfl, ⟨g0, g1, g2, hidden hS'⟩, hidden ⟨base, ho2⟩⟩
    have hS0 : (w4.drew.cell? ⟨w2.heap.size, 0, none⟩ = some (.int .i64 x) ∧ w4.drew.cell? ⟨w2.heap.size, 1, none⟩ = some (.int .i64 1) ∧ w4.drew.cell? ⟨w2.heap.size, 2, none⟩ = some (.bool u) ∧ Hid (BSt w w4.drew w2.heap.size ⟨x, 1, u⟩)) := by
      obtain ⟨g0, g1, g2⟩ := HS5.out.2.1.cells
      exact ⟨g0, g1, g2, hidden (HS5.out.below (below_draws w4 1))⟩
    clear HC HS5
    go_wp2_with fail
    go_region_held3 (fun w' => w'.cell? ⟨w2.heap.size, 0, none⟩ = some (.int .i64 x) ∧ w'.cell? ⟨w2.heap.size, 1, none⟩ = some (.int .i64 1) ∧ w'.cell? ⟨w2.heap.size, 2, none⟩ = some (.bool u) ∧ Hid (BSt w w' w2.heap.size ⟨x, 1, u⟩)) (with_reducible assumption) (first | (go_at_call 28; refine (HCO.out _ (by with_reducible assumption)).mono ?_; rintro e w6 ⟨v6, rfl, hS6, hO6⟩) | (go_at_call 29; refine (HPU.out _ _ (by with_reducible assumption) (by with_reducible assumption)).mono ?_; rintro e w7 ⟨v7, rfl, hS7, hO7⟩))
    have HZ : Hid (∃ a' c', v7 = .slice a' R.length c' ∧ MArg w7 a' R.length R ∧ R.length ≤ c' ∧ (a' = none → R.length = 0 ∧ c' = 0)) := by
      obtain ⟨base, ho⟩ := hO7.out
      obtain ⟨a', c', rfl, hI, hnn, hkc, _⟩ := own_mbs ho (by have := HRL.out; omega)
      exact ⟨a', c', rfl, hI, hkc, hnn⟩
    have HB7 : Hid (Below w.heap.size w w7) := hS7.2.2.2.out.1
    clear hS7 hO7 hS6 hO6 hS0 HCO HPU
    obtain ⟨a', c', rfl, hI, hkc, hnn⟩ := HZ.out
    have HI := hidden (And.intro hI (And.intro hkc hnn))
    clear hI hkc hnn HZ
    go_wp2_with fail
    go_ret2
    exact ⟨a', _, c', rfl, HI.out.1, HI.out.2.1, HI.out.2.2, HB7.out⟩
  | true =>
    have hP := hPn rfl
    obtain ⟨q, hq⟩ : ∃ q, L.getD P zz = q := ⟨_, rfl⟩
    rw [hq] at hlk
    have hver : ver L x = q.v := ver_some (by rw [hlk]; rfl)
    rw [hver] at hv
    have hqb := ver_bd HFL.out x
    rw [hver] at hqb
    have hbm : bm L x u = ⟨x, 1 + q.v, u⟩ := by unfold bm; rw [hver]
    have HOK : Hid (okm ⟨x, 1 + q.v, u⟩ = true) := by rw [← hbm]; exact HOK0
    have HR : Hid (R = VM.put L ⟨x, 1 + q.v, u⟩) := by rw [← hbm]; exact HR0.out.symm
    have HQ := hidden hq
    clear hver hbm hlk hPn HOK0 HR0 hq
    obtain ⟨x', y', u'⟩ := q
    simp only at hv hqb HOK HR
    have dv : (y' == 1000000) = false := by simp; omega
    obtain ⟨Y, hY⟩ : ∃ Y, 1 + y' = Y := ⟨_, rfl⟩
    rw [hY] at HOK HR
    have HY := hidden hY
    clear hY
    go_enter Tryd.func22, Tryd.ntmps22
    go_wp2_with fail
    refine HC1.out.mono ?_
    rintro e w1 ⟨rfl, hb1⟩
    have HB1 := hidden hb1
    clear hb1 HC1
    go_wp2_with fail
    refine (HC2.out _).mono ?_
    rintro e w2 ⟨rfl, rfl⟩
    have HS2 : Hid (BSt w (w2.alloc (.cells #[.int .i64 x, .int .i64 1, .bool u] 48)) w2.heap.size ⟨x, 1, u⟩) := ⟨below_alloc HB1.out _, MBox.new w2 ⟨x, 1, u⟩, HB1.out.size⟩
    go_wp2_with fail
    refine (HF.out _ HS2.out.1).mono ?_
    rintro e w4 ⟨rfl, hb4⟩
    have HS4 : Hid (BSt w w4 w2.heap.size ⟨x, 1, u⟩) := HS2.out.below hb4
    clear hb4 HS2 HF HC2
    obtain ⟨b, o, rfl, hbl, hcs⟩ := (HA.out.below HS4.out.1).at (by omega)
    obtain ⟨d0, d1, d2⟩ := hcs P hP
    rw [HQ.out] at d0 d1 d2
    simp only at d0 d1 d2
    clear hcs
    obtain ⟨c0, c1, c2⟩ := HS4.out.2.1.cells
    simp only at c0 c1 c2
    have f1 := HS4.out.2.1.free 1
    have hPz : (P : Int) < (n : Int) := by omega
    have HS5' : Hid (BSt w (w4.setCell ⟨w2.heap.size, 1, none⟩ (.int .i64 (1 + y'))).drew w2.heap.size ⟨x, Y, u⟩) := by
      have := (HS4.out.setV (1 + y')).below (below_draws _ 1)
      rw [HY.out] at this ⊢
      exact this
    go_wp2_with fail
    go_region
    obtain ⟨w5, hw5⟩ : ∃ w5, (w4.setCell ⟨w2.heap.size, 1, none⟩ (.int .i64 (1 + y'))).drew = w5 := ⟨_, rfl⟩
    rw [hw5] at HS5' ⊢
    have HS5 := HS5'
    clear hw5 HS4 HS5' c0 c1 c2 d0 d1 d2 f1 HY
    have HCO : Hid (∀ W, (W.cell? ⟨w2.heap.size, 0, none⟩ = some (.int .i64 x) ∧ W.cell? ⟨w2.heap.size, 1, none⟩ = some (.int .i64 Y) ∧ W.cell? ⟨w2.heap.size, 2, none⟩ = some (.bool u) ∧ Hid (BSt w W w2.heap.size ⟨x, Y, u⟩)) → Calls Tryd.prog 28 #[.slice (some ⟨b, o, none⟩) n cap] W fun e w' => ∃ v', e = .returned v' ∧ (w'.cell? ⟨w2.heap.size, 0, none⟩ = some (.int .i64 x) ∧ w'.cell? ⟨w2.heap.size, 1, none⟩ = some (.int .i64 Y) ∧ w'.cell? ⟨w2.heap.size, 2, none⟩ = some (.bool u) ∧ Hid (BSt w w' w2.heap.size ⟨x, Y, u⟩)) ∧ Hid (∃ base, w2.heap.size < base ∧ base ≤ w'.heap.size ∧ w'.ownsRow base 48 3 v' n (mc L))) := by
      refine hidden ?_
      rintro W ⟨_, _, _, hS⟩
      refine (HC.out W hS.out.1).mono ?_
      rintro e w' ⟨v', rfl, ho, hb⟩
      have hS' := hS.out.below hb
      obtain ⟨g0, g1, g2⟩ := hS'.2.1.cells
      exact ⟨v', rfl, ⟨g0, g1, g2, hidden hS'⟩, hidden ⟨W.heap.size, hS.out.2.1.lt, hb.size, ho⟩⟩
    have HPU : Hid (∀ W v', (W.cell? ⟨w2.heap.size, 0, none⟩ = some (.int .i64 x) ∧ W.cell? ⟨w2.heap.size, 1, none⟩ = some (.int .i64 Y) ∧ W.cell? ⟨w2.heap.size, 2, none⟩ = some (.bool u) ∧ Hid (BSt w W w2.heap.size ⟨x, Y, u⟩)) → Hid (∃ base, w2.heap.size < base ∧ base ≤ W.heap.size ∧ W.ownsRow base 48 3 v' n (mc L)) → Calls Tryd.prog 29 #[v', .agg #[.int .i64 x, .int .i64 Y, .bool u]] W fun e w' => ∃ v2, e = .returned v2 ∧ (w'.cell? ⟨w2.heap.size, 0, none⟩ = some (.int .i64 x) ∧ w'.cell? ⟨w2.heap.size, 1, none⟩ = some (.int .i64 Y) ∧ w'.cell? ⟨w2.heap.size, 2, none⟩ = some (.bool u) ∧ Hid (BSt w w' w2.heap.size ⟨x, Y, u⟩)) ∧ Hid (∃ base, w'.ownsRow base 48 3 v2 R.length (mc R))) := by
      refine hidden ?_
      rintro W v' ⟨_, _, _, hS⟩ ho
      obtain ⟨base, hBb, hbw, ho⟩ := ho.out
      refine (put_calls v' base n L ⟨x, Y, u⟩ W ho hbw HFL.out HOK.out).mono ?_
      rintro e w' ⟨v2, rfl, ho2, hg2⟩
      have hS' := hS.out.grown ho hg2 hBb
      obtain ⟨g0, g1, g2⟩ := hS'.2.1.cells
      rw [← HR.out] at ho2
      exact ⟨v2, rfl, ⟨g0, g1, g2, hidden hS'⟩, hidden ⟨base, ho2⟩⟩
    have hS0 : (w5.drew.cell? ⟨w2.heap.size, 0, none⟩ = some (.int .i64 x) ∧ w5.drew.cell? ⟨w2.heap.size, 1, none⟩ = some (.int .i64 Y) ∧ w5.drew.cell? ⟨w2.heap.size, 2, none⟩ = some (.bool u) ∧ Hid (BSt w w5.drew w2.heap.size ⟨x, Y, u⟩)) := by
      obtain ⟨g0, g1, g2⟩ := HS5.out.2.1.cells
      exact ⟨g0, g1, g2, hidden (HS5.out.below (below_draws w5 1))⟩
    clear HC HS5
    go_wp2_with fail
    go_region_held3 (fun w' => w'.cell? ⟨w2.heap.size, 0, none⟩ = some (.int .i64 x) ∧ w'.cell? ⟨w2.heap.size, 1, none⟩ = some (.int .i64 Y) ∧ w'.cell? ⟨w2.heap.size, 2, none⟩ = some (.bool u) ∧ Hid (BSt w w' w2.heap.size ⟨x, Y, u⟩)) (with_reducible assumption) (first | (go_at_call 28; refine (HCO.out _ (by with_reducible assumption)).mono ?_; rintro e w6 ⟨v6, rfl, hS6, hO6⟩) | (go_at_call 29; refine (HPU.out _ _ (by with_reducible assumption) (by with_reducible assumption)).mono ?_; rintro e w7 ⟨v7, rfl, hS7, hO7⟩))
    have HZ : Hid (∃ a' c', v7 = .slice a' R.length c' ∧ MArg w7 a' R.length R ∧ R.length ≤ c' ∧ (a' = none → R.length = 0 ∧ c' = 0)) := by
      obtain ⟨base, ho⟩ := hO7.out
      obtain ⟨a', c', rfl, hI, hnn, hkc, _⟩ := own_mbs ho (by have := HRL.out; omega)
      exact ⟨a', c', rfl, hI, hkc, hnn⟩
    have HB7 : Hid (Below w.heap.size w w7) := hS7.2.2.2.out.1
    clear hS7 hO7 hS6 hO6 hS0 HCO HPU
    obtain ⟨a', c', rfl, hI, hkc, hnn⟩ := HZ.out
    have HI := hidden (And.intro hI (And.intro hkc hnn))
    clear hI hkc hnn HZ
    go_wp2_with fail
    go_ret2
    exact ⟨a', _, c', rfl, HI.out.1, HI.out.2.1, HI.out.2.2, HB7.out⟩

set_option maxHeartbeats 1000000 in
set_option maxRecDepth 100000 in
theorem bump_calls (a : Option Addr) (n cap : Nat) (L : List Mb) (x : Int) (u : Bool) (w : World) (hA : MArg w a n L) (hnA : a = none → n = 0 ∧ cap = 0) :
    Calls Tryd.prog 22 #[.slice a n cap, .int .i64 x, .bool u] w fun e w' => ∃ a' q c', e = .returned (.tuple #[.slice a' q c', errv (bf L x)]) ∧ MArg w' a' q (bmp L x u) ∧ q ≤ c' ∧ (a' = none → q = 0 ∧ c' = 0) ∧ Below w.heap.size w w' := by
  by_cases hz : bf L x = 0
  · unfold bmp
    rw [if_pos hz, hz, errv_zero]
    exact bump_good a n cap L x u w hA hnA hz
  · unfold bmp
    rw [if_neg hz]
    have HC1 := hidden (check_calls a n cap L w hA)
    by_cases h1 : vf L = 0
    · rw [h1, errv_zero] at HC1
      by_cases h2 : 0 ≤ x ∧ x ≤ 15
      · have hv : ver L x = 1000000 := by
          unfold bf at hz
          rw [if_pos h1, if_pos h2] at hz
          by_cases h : ver L x = 1000000
          · exact h
          · rw [if_neg h] at hz; omega
        have hb : bf L x = 4 := by unfold bf; rw [if_pos h1, if_pos h2, if_pos hv]
        rw [hb]
        have fL := fit_iff.1 h1
        have hn16 := fL.len
        have hl := hA.2.1
        have C2 := fun W => isNode_calls x W
        rw [decide_eq_true h2] at C2
        have HC2 := hidden C2
        have HF : Hid (∀ W, Below w.heap.size w W → Calls Tryd.prog 30 #[.slice a n cap, .int .i64 x] W fun e w' => e = .returned (.tuple #[.int .i64 (pl L x : Nat), .bool (fd L x)]) ∧ Below W.heap.size W w') := fun W hW => find_calls a n cap L x W (hA.below hW) fL h2.1 h2.2
        have HA := hidden hA
        have hlk := lk_fd fL.ris x
        cases hfd : fd L x with
        | false =>
          rw [hfd] at hlk
          have : ver L x = 0 := ver_none (by rw [hlk]; rfl)
          omega
        | true =>
          have hP : pl L x < n := by
            unfold fd at hfd
            simp only [Bool.and_eq_true, decide_eq_true_eq] at hfd
            omega
          rw [hfd] at hlk HF
          obtain ⟨q, hq⟩ : ∃ q, L.getD (pl L x) zz = q := ⟨_, rfl⟩
          rw [hq] at hlk
          have hver : ver L x = q.v := ver_some (by rw [hlk]; rfl)
          rw [hver] at hv
          have HQ := hidden hq
          clear hver hlk hq hb hz h1 C2 hfd fL hA hnA
          generalize pl L x = P at *
          obtain ⟨x', y', u'⟩ := q
          simp only at hv
          subst hv
          go_enter Tryd.func22, Tryd.ntmps22
          go_wp2_with fail
          refine HC1.out.mono ?_
          rintro e w1 ⟨rfl, hb1⟩
          have HB1 := hidden hb1
          clear hb1 HC1
          go_wp2_with fail
          refine (HC2.out _).mono ?_
          rintro e w2 ⟨rfl, rfl⟩
          have HS2 : Hid (Below w.heap.size w (w2.alloc (.cells #[.int .i64 x, .int .i64 1, .bool u] 48))) := below_alloc HB1.out _
          go_wp2_with fail
          refine (HF.out _ HS2.out).mono ?_
          rintro e w4 ⟨rfl, hb4⟩
          have HS4 : Hid (Below w.heap.size w w4) := HS2.out.trans (hb4.mono HS2.out.size)
          clear hb4 HS2 HF HC2
          obtain ⟨b, o, rfl, hbl, hcs⟩ := (HA.out.below HS4.out).at (by omega)
          obtain ⟨d0, d1, d2⟩ := hcs P hP
          rw [HQ.out] at d0 d1 d2
          simp only at d0 d1 d2
          have hPz : (P : Int) < (n : Int) := by omega
          clear hcs
          go_wp2_with fail
          go_ret2
          exact ⟨none, 0, 0, rfl, MArg.nil _ _, Nat.le_refl _, fun _ => ⟨rfl, rfl⟩, HS4.out⟩
      · have hb : bf L x = 1 := by unfold bf; rw [if_pos h1, if_neg h2]
        rw [hb]
        have C2 := fun W => isNode_calls x W
        rw [decide_eq_false h2] at C2
        have HC2 := hidden C2
        clear hb hz h1 C2 hA hnA
        go_enter Tryd.func22, Tryd.ntmps22
        go_wp2_with fail
        refine HC1.out.mono ?_
        rintro e w1 ⟨rfl, hb1⟩
        have HB1 := hidden hb1
        clear hb1 HC1
        go_wp2_with fail
        refine (HC2.out _).mono ?_
        rintro e w2 ⟨rfl, rfl⟩
        go_wp2_with fail
        go_ret2
        exact ⟨none, 0, 0, rfl, MArg.nil _ _, Nat.le_refl _, fun _ => ⟨rfl, rfl⟩, HB1.out⟩
    · have hb : bf L x = vf L := by unfold bf; rw [if_neg h1]
      rw [hb]
      generalize vf L = f at *
      have hcmp := cmp_ne f
      have hgrd := grd_ne f
      have d : decide (f = 0) = false := by simpa using h1
      rw [d] at hcmp
      generalize errv f = ev at *
      clear hb hz h1 hA hnA
      go_enter Tryd.func22, Tryd.ntmps22
      go_wp2_with fail
      refine HC1.out.mono ?_
      rintro e w1 ⟨rfl, hb1⟩
      have HB1 := hidden hb1
      clear hb1 HC1
      go_wp2_with fail
      go_ret2
      exact ⟨none, 0, 0, rfl, MArg.nil _ _, Nat.le_refl _, fun _ => ⟨rfl, rfl⟩, HB1.out⟩

theorem undMB : Tryd.prog.underlying 48 = some (.struct (Tryd.prog.fieldsOf 48)) := by kernel_rfl
theorem heldMB : Tryd.prog.stoodInHeld 48 = false := by kernel_rfl
theorem grdMB : Tryd.prog.eqGuardType Tryd.prog.depth 48 = false := by kernel_rfl
theorem mgrd (o1 o2 : Operand) (xs ys : Array Value) (w : World) : (eqGuard .neq 48 o1 o2 (.agg xs) (.agg ys)).run Tryd.prog w = .ok () w := run_eqGuard_agg w .neq 48 o1 o2 xs ys grdMB
theorem mcmp (x y : Int) (u : Bool) (x' y' : Int) (u' : Bool) (w : World) : (binOp .neq 48 (.agg #[.int .i64 x, .int .i64 y, .bool u]) (.agg #[.int .i64 x', .int .i64 y', .bool u'])).run Tryd.prog w = .ok (.bool (mne ⟨x, y, u⟩ ⟨x', y', u'⟩)) w := by
  rw [run_neq_struct, run_equalIn_agg w 9999 48 _ _ undMB heldMB]
  by_cases h1 : x = x'
  · by_cases h2 : y = y'
    · cases u <;> cases u' <;> simp [go_sem, mne, h1, h2]
    · simp [go_sem, mne, h1, h2]
  · simp [go_sem, mne, h1]

set_option maxHeartbeats 1000000 in
set_option maxRecDepth 100000 in
theorem mbrs_same (a b : Option Addr) (n cap cap' : Nat) (L : List Mb) (w : World) (hA : MArg w a n L) (hB : MArg w b n L) :
    Calls Tryd.prog 19 #[.slice a n cap, .slice b n cap'] w fun e w' => e = .returned (.bool true) ∧ Below w.heap.size w w' := by
  have hn := hA.2.2
  have HA := hidden hA
  have HB := hidden hB
  clear hA hB
  go_enter Tryd.func19, Tryd.ntmps19
  go_wp2_with fail
  go_loopg [5] n (fun g y wr => ∃ (i : Nat), i + g = n ∧ y = .int .i64 (i : Int) ∧ Hid (Below w.heap.size w wr))
  case atStart => exact ⟨0, by omega, rfl, Below.refl _ _⟩
  case round =>
    obtain ⟨i, hig, rfl, HW⟩ := hrel
    by_cases hi : i < n
    · have hiz : (i : Int) < (n : Int) := by omega
      obtain ⟨b1, o1, rfl, _, h1⟩ := (HA.out.below HW.out).at (by omega)
      obtain ⟨b2, o2, rfl, _, h2⟩ := (HB.out.below HW.out).at (by omega)
      obtain ⟨c0, c1, c2⟩ := h1 i hi
      obtain ⟨d0, d1, d2⟩ := h2 i hi
      clear h1 h2
      obtain ⟨m, hm⟩ : ∃ m, L.getD i zz = m := ⟨_, rfl⟩
      rw [hm] at c0 c1 c2 d0 d1 d2
      clear hm
      obtain ⟨x, y, u⟩ := m
      simp only at c0 c1 c2 d0 d1 d2
      have hcmp : ∀ w, (binOp .neq 48 (.agg #[.int .i64 x, .int .i64 y, .bool u]) (.agg #[.int .i64 x, .int .i64 y, .bool u])).run Tryd.prog w = .ok (.bool false) w := fun w => by rw [mcmp, mne_self]
      have hgrd := mgrd
      go_wp2_with fail
      go_quiet (fail)
      go_wp2_with fail
      go_roundg (n - (i + 1))
      case measure => omega
      case rel => exact ⟨i + 1, by omega, by go_num, hidden (below_drewN' HW.out _)⟩
    · have hiz : ¬ (i : Int) < (n : Int) := by omega
      go_wp2_with fail
      go_ret
      exact ⟨rfl, HW.out⟩
end Go.Proofs.YtlahlgoknolniafDoor.View
