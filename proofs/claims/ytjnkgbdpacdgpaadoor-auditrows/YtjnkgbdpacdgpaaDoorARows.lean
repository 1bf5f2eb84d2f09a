/-
  The walk of the Go function AuditRows: it returns true. Its condition: package errors' variable errorType is as its text lays it.
-/
import Derived.Test.YtjnkgbdpacdgpaaDoorAuditR
import Derived.Test.YtjnkgbdpacdgpaaDoorOutC
import Derived.Test.YtjnkgbdpacdgpaaDoorTold
import Derived.LoopTactic
import Derived.Deep.CutRange
import Derived.Deep.LoopGhost
import Derived.Deep.AppendLies
namespace Go.Proofs.YtjnkgbdpacdgpaaDoor.ARows
open Go.ChangeShapes Go.WideShapes Go.ChangeAt Go.RowKit Go.Proofs.YtjnkgbdpacdgpaaDoor.PM Go.Proofs.YtjnkgbdpacdgpaaDoor.Mem Go.Proofs.YtjnkgbdpacdgpaaDoor.Pack Go.Proofs.YtjnkgbdpacdgpaaDoor.UM Go.Proofs.YtjnkgbdpacdgpaaDoor.Out Go.Proofs.YtjnkgbdpacdgpaaDoor.AU Go.Proofs.YtjnkgbdpacdgpaaDoor.Audit
set_option linter.unusedVariables false

theorem hg_of {w W : World} {u : Value} (h : w.cell? ⟨0, 0, none⟩ = some u) (hb : Below w.heap.size w W) : W.cell? ⟨0, 0, none⟩ = some u := (hb.cell (World.block_lt_of_cell? w ⟨0, 0, none⟩ h)).trans h
theorem new12 (W : World) (cs : Array Value) (k : Nat) : (W.alloc (.cells cs 27)).cell? ⟨W.heap.size, k, none⟩ = cs[k]? := by rw [World.cell?_alloc_mark]
def q1 : Pk := ⟨1, 0, 0, 0, false, none, 0, 0, []⟩
def q3 : Pk := ⟨3, 0, 0, 0, false, none, 0, 0, []⟩
theorem first_row (W : World) : Calls Tryd.prog 7 #[.slice (some ⟨W.heap.size, 0, none⟩) 2 2] (W.alloc (.cells #[.int .i64 1, .int .i64 0, .int .i64 0, .int .i64 0, .bool false, .slice none 0 0, .int .i64 3, .int .i64 0, .int .i64 0, .int .i64 0, .bool false, .slice none 0 0] 27))
    fun e w' => e = .returned (.tuple #[.int .i64 1, .iface 50 (.int .i64 3)]) ∧ Below W.heap.size W w' := by
  have hX : PArg (W.alloc (.cells #[.int .i64 1, .int .i64 0, .int .i64 0, .int .i64 0, .bool false, .slice none 0 0, .int .i64 3, .int .i64 0, .int .i64 0, .int .i64 0, .bool false, .slice none 0 0] 27)) (some ⟨W.heap.size, 0, none⟩) 2 [q1, q3] := by
    refine ⟨rfl, by omega, fun j hj => ⟨W.heap.size, 0, rfl, ?_, ?_⟩⟩
    · rcases j with _ | _ | j
      · exact ⟨new12 W _ _, new12 W _ _, new12 W _ _, new12 W _ _, new12 W _ _, new12 W _ _⟩
      · exact ⟨new12 W _ _, new12 W _ _, new12 W _ _, new12 W _ _, new12 W _ _, new12 W _ _⟩
      · omega
    · rcases j with _ | _ | j
      · exact ⟨Bys.nil _ _, rfl, by decide⟩
      · exact ⟨Bys.nil _ _, rfl, by decide⟩
      · omega
  refine (row_calls _ 2 2 [q1, q3] 1 _ hX ⟨by decide, fun i hi => (by cases i with | zero => decide | succ i => omega), fun _ => by decide⟩).mono ?_
  rintro e w' ⟨rfl, hb⟩
  exact ⟨rfl, below_old hb⟩

/-- what went out of what was sent -/
structure Alike (S0 : Int) (X Y : List Pk) : Prop where
  len : X.length = Y.length
  all : ∀ i, i < X.length → like (X.getD i noPk) (Y.getD i noPk) = true ∧ pf (X.getD i noPk) = 0 ∧ (X.getD i noPk).s = sq S0 i
theorem getD_app_l {X : List Pk} {p : Pk} {i : Nat} (h : i < X.length) : (X ++ [p]).getD i noPk = X.getD i noPk := by
  simp [List.getD_eq_getElem?_getD, List.getElem?_append_left h]
theorem getD_app_r {X : List Pk} {p : Pk} : (X ++ [p]).getD X.length noPk = p := by
  simp [List.getD_eq_getElem?_getD]
theorem Alike.add {S0 : Int} {X Y : List Pk} {p q : Pk} (h : Alike S0 X Y) (h1 : like p q = true) (h2 : pf p = 0) (h3 : p.s = sq S0 X.length) : Alike S0 (X ++ [p]) (Y ++ [q]) := by
  refine ⟨by simp [h.len], fun i hi => ?_⟩
  rw [List.length_append, List.length_singleton] at hi
  by_cases hx : i < X.length
  · rw [getD_app_l hx, getD_app_l (by have := h.len; omega)]
    exact h.all i hx
  · obtain rfl : i = X.length := by omega
    rw [getD_app_r]
    have e : (Y ++ [q]).getD X.length noPk = q := by rw [h.len]; exact getD_app_r
    rw [e]
    exact ⟨h1, h2, h3⟩
theorem Alike.nxt {S0 : Int} {X Y : List Pk} (h : Alike S0 X Y) : ∀ i, i ≤ X.length → nxt Y X i = i := by
  intro i
  induction i with
  | zero => intro _; rfl
  | succ i ih =>
    intro hi
    have e := ih (by omega)
    rw [nxt_succ, e, drop_cons (d := noPk) (by have := h.len; omega), fi, if_pos (h.all i (by omega)).1]
theorem Alike.stop {S0 : Int} {X Y : List Pk} (h : Alike S0 X Y) : Stop Y X X.length := ⟨Nat.le_refl _, by rw [h.nxt _ (Nat.le_refl _), h.len]; exact Nat.le_refl _, fun h => by omega⟩
theorem Alike.holes {S0 : Int} {X Y : List Pk} (h : Alike S0 X Y) : ∀ j, j < X.length - 1 → (hls Y X (X.length - 1)).getD j 0 = 0 := by
  intro j hj
  have e : (hls Y X (X.length - 1)).getD j 0 = hl Y X j := by simp [hls, List.getD_eq_getElem?_getD, List.getElem?_map, List.getElem?_range hj]
  rw [e]
  unfold hl pl
  rw [h.nxt (j + 1 + 1) (by omega), h.nxt (j + 1) (by omega)]
  omega
theorem Alike.row {S0 : Int} {X Y : List Pk} (h : Alike S0 X Y) : RStop X X.length := by
  refine rstop_all fun i hi => ?_
  obtain ⟨_, h2, h3⟩ := h.all i hi
  unfold rfa
  rw [if_neg (by omega)]
  refine if_neg ?_
  rintro ⟨h0, hne⟩
  obtain ⟨_, _, h4⟩ := h.all (i - 1) (by omega)
  apply hne
  rw [h3, h4]
  have := sq_next S0 (i - 1)
  rw [show i - 1 + 1 = i by omega] at this
  exact this

theorem end_row {w W : World} {b : Nat} {gv sv : Value} {X Y : List Pk} {S0 : Int} (h : Rws w W b gv sv X Y) (ha : Alike S0 X Y) (hk : X.length ≤ 60) :
    Calls Tryd.prog 7 #[gv] W fun e w' => e = .returned (.tuple #[.int .i64 0, .nilIface]) ∧ Below W.heap.size W w' := by
  obtain ⟨a, cap, rfl, hA, _, _⟩ := own_pks h.got rfl (by omega) (fun p hp => (h.bx p hp).1)
  refine (row_calls a X.length cap X X.length W hA ha.row).mono ?_
  rintro e w' ⟨rfl, hb⟩
  refine ⟨?_, hb⟩
  have e1 : rowf X X.length = 0 := by unfold rowf; rw [if_neg (by omega), if_neg (by omega)]
  have e2 : rat X X.length = 0 := by unfold rat; rw [if_neg (by omega), if_neg (by omega)]
  rw [e1, e2]
  rfl
theorem end_check {w W : World} {b : Nat} {gv sv : Value} {X Y : List Pk} {S0 : Int} (h : Rws w W b gv sv X Y) (ha : Alike S0 X Y) (hk : X.length ≤ 60) :
    Calls Tryd.prog 10 #[sv, gv] W fun e w' => e = .returned (.tuple #[.int .i64 0, .nilIface]) ∧ Below W.heap.size W w' := by
  have hl := ha.len
  obtain ⟨a, cap, rfl, hA, _, _⟩ := own_pks h.got rfl (by omega) (fun p hp => (h.bx p hp).1)
  obtain ⟨a2, cap2, rfl, hA2, hc2, hn2⟩ := own_pks h.snt rfl (by omega) (fun p hp => (h.byy p hp).1)
  refine (Audit.check_calls a2 Y.length cap2 Y a X.length cap X X.length W hA2 hc2 hn2 hA ha.stop).mono ?_
  rintro e w' ⟨rfl, hb⟩
  refine ⟨?_, hb⟩
  have e1 : cfault Y X X.length = 0 := cfault_ok (by omega) (by omega)
  have e2 : cat Y X X.length = 0 := by unfold cat; rw [if_neg (by omega)]
  rw [e1, e2]
  rfl
theorem end_holes {w W : World} {b : Nat} {gv sv : Value} {X Y : List Pk} {S0 : Int} (h : Rws w W b gv sv X Y) (ha : Alike S0 X Y) (hk : X.length ≤ 60) :
    Calls Tryd.prog 11 #[sv, gv] W fun e w' => ∃ a n c L, e = .returned (.tuple #[.slice a n c, .nilIface]) ∧ n ≤ 60 ∧ IArg w' a n L ∧ (∀ j, j < n → L.getD j 0 = 0) ∧ Below W.heap.size W w' := by
  have hl := ha.len
  obtain ⟨a, cap, rfl, hA, _, _⟩ := own_pks h.got rfl (by omega) (fun p hp => (h.bx p hp).1)
  obtain ⟨a2, cap2, rfl, hA2, hc2, hn2⟩ := own_pks h.snt rfl (by omega) (fun p hp => (h.byy p hp).1)
  refine (holes_calls a2 Y.length cap2 Y a X.length cap X X.length W hA2 hc2 hn2 hA ha.stop).mono ?_
  rintro e w' ⟨v, rfl, hown, hb⟩
  have e1 : cfault Y X X.length = 0 := cfault_ok (by omega) (by omega)
  have e2 : Audit.hk Y X X.length = hls Y X (X.length - 1) := by unfold Audit.hk; rw [if_pos e1]
  rw [e1]
  rw [e2, hls_len] at hown
  obtain ⟨av, cv, rfl, hA3, _⟩ := own_ints hown (by omega)
  exact ⟨av, X.length - 1, cv, _, rfl, by omega, hA3, ha.holes, hb⟩
/-- under way: the Out, what was got, what was sent -/
structure LSt (w W : World) (b : Nat) (S0 : Int) (k : Nat) (T ly ow : Int) (gv sv : Value) (X Y : List Pk) : Prop where
  rws : Rws w W b gv sv X Y
  out : OutAt W b S0 k T ly ow
  inv : UM.Inv S0 k T ow
  ali : Alike S0 X Y
  len : X.length = k
theorem LSt.below {w W W' : World} {b : Nat} {S0 : Int} {k : Nat} {T ly ow : Int} {gv sv : Value} {X Y : List Pk} (h : LSt w W b S0 k T ly ow gv sv X Y) (hb : Below W.heap.size W W') : LSt w W' b S0 k T ly ow gv sv X Y :=
  ⟨h.rws.below hb, h.out.below hb, h.inv, h.ali, h.len⟩
/-- Next has gone on -/
theorem LSt.next {w W : World} {b : Nat} {S0 : Int} {k : Nat} {T ly ow : Int} {gv sv : Value} {X Y : List Pk} (h : LSt w W b S0 k T ly ow gv sv X Y) (p : Pk) (hk : k < 1000) (hp : pf p = 0) (hok : PkOk W p) (hN : p.a = none → p.m = 0 ∧ p.c = 0) :
    Calls Tryd.prog 16 #[.pointer (some ⟨b, 0, none⟩), pv p] W fun e w' => ∃ p' : Pk, e = .returned (.tuple #[pv p', .nilIface]) ∧ Rws w w' b gv sv X Y ∧ OutAt w' b S0 (k + 1) (nt k T ly ow p.l p.t) p.l p.t ∧ UM.Inv S0 (k + 1) (nt k T ly ow p.l p.t) p.t ∧ Bd w' (fp b gv sv) p' ∧ like p' p = true ∧ pf p' = 0 ∧ p'.s = sq S0 X.length := by
  have ht : 0 ≤ p.t ∧ p.t ≤ 4294967295 := by obtain ⟨_, t', _, _, _, ht, _, _, _, ht1, _⟩ := fault_zero hp; omega
  refine (next_ok b S0 k T ly ow p.s p.t p.l p.q p.st p.a p.m p.c p.L W h.out h.inv hk hp hok hN).mono ?_
  rintro e w' ⟨a', c', rfl, h1, h2, h3, h4, h5⟩
  refine ⟨⟨sq S0 k, nt k T ly ow p.l p.t, p.l, p.q, p.st, a', p.m, c', p.L⟩, rfl, h.rws.only h4, h1, h.inv.next hk ht.1 ht.2, ⟨h2, h3, fun ad e hm => ⟨ok_lt (p := ⟨sq S0 k, nt k T ly ow p.l p.t, p.l, p.q, p.st, a', p.m, c', p.L⟩) h2 e hm, fun hc => ?_⟩⟩, ?_, ?_, by rw [h.len]⟩
  · have := h5 ad e
    have := (h.rws.fpb _ hc).2
    omega
  · rw [like_iff]; exact ⟨rfl, rfl, rfl, rfl⟩
  · have hb := sq_bd S0 k
    have hn := nt_bd (k := k) (ly := ly) (ow := ow) (l := p.l) (t := p.t) h.inv.t0 h.inv.t1
    obtain ⟨s, t, l, q, e1, e2, e3, e4, f1, f2, f3, f4, f5⟩ := fault_zero hp
    unfold pf fault
    simp only
    rw [if_pos ⟨hb.1, hb.2, hn.1, hn.2, by omega, by omega, by omega, by omega⟩, if_pos f5]

set_option maxHeartbeats 4000000 in
set_option maxRecDepth 100000 in
theorem walk_e0 (S D : Int) (vl : Value) (w : World) (hg : w.cell? ⟨0, 0, none⟩ = some (.iface 76 (.agg #[.pointer (some ⟨1, 29, none⟩)]))) (h0 : S < 0) :
    Calls Tryd.prog 5 #[.int .i64 S, .int .i64 D, vl] w fun e w' => e = .returned (.bool true) ∧ Below w.heap.size w w' := by
  have HE := hidden (fun W => new_err S D W (by omega))
  have HR := hidden first_row
  have HG := hidden hg
  have d0 : decide (S < 0) = true := by simpa using h0
  clear hg
  go_enter Tryd.func5, Tryd.ntmps5
  go_wp2_with fail
  refine (HR.out _).mono ?_
  rintro e w1 ⟨rfl, hb1⟩
  have HB1 := hidden hb1
  have HG1 := hidden (hg_of HG.out hb1)
  clear hb1
  go_wp2_with fail
  refine (Told.same_err 3 3 _ (by decide) (by decide) HG1.out).mono ?_
  rintro e w2 ⟨rfl, hb2⟩
  have HB2 : Hid (Below w.heap.size w w2) := HB1.out.trans (hb2.mono HB1.out.size)
  clear hb2 HB1 HG1
  go_wp2_with fail
  refine (HE.out _).mono ?_
  rintro e w3 ⟨rfl, rfl⟩
  go_wp2_with fail
  go_ret
  exact ⟨rfl, HB2.out⟩
set_option maxHeartbeats 4000000 in
set_option maxRecDepth 100000 in
theorem walk_e1 (S D : Int) (vl : Value) (w : World) (hg : w.cell? ⟨0, 0, none⟩ = some (.iface 76 (.agg #[.pointer (some ⟨1, 29, none⟩)]))) (h0 : ¬ S < 0) (h1 : 65535 < S) :
    Calls Tryd.prog 5 #[.int .i64 S, .int .i64 D, vl] w fun e w' => e = .returned (.bool true) ∧ Below w.heap.size w w' := by
  have HE := hidden (fun W => new_err S D W (by omega))
  have HR := hidden first_row
  have HG := hidden hg
  have d0 : decide (S < 0) = false := by simpa using h0
  have d1 : decide (65535 < S) = true := by simpa using h1
  clear hg
  go_enter Tryd.func5, Tryd.ntmps5
  go_wp2_with fail
  refine (HR.out _).mono ?_
  rintro e w1 ⟨rfl, hb1⟩
  have HB1 := hidden hb1
  have HG1 := hidden (hg_of HG.out hb1)
  clear hb1
  go_wp2_with fail
  refine (Told.same_err 3 3 _ (by decide) (by decide) HG1.out).mono ?_
  rintro e w2 ⟨rfl, hb2⟩
  have HB2 : Hid (Below w.heap.size w w2) := HB1.out.trans (hb2.mono HB1.out.size)
  clear hb2 HB1 HG1
  go_wp2_with fail
  refine (HE.out _).mono ?_
  rintro e w3 ⟨rfl, rfl⟩
  go_wp2_with fail
  go_ret
  exact ⟨rfl, HB2.out⟩
set_option maxHeartbeats 4000000 in
set_option maxRecDepth 100000 in
theorem walk_e2 (S D : Int) (vl : Value) (w : World) (hg : w.cell? ⟨0, 0, none⟩ = some (.iface 76 (.agg #[.pointer (some ⟨1, 29, none⟩)]))) (h0 : ¬ S < 0) (h1 : ¬ 65535 < S) (h2 : D < 0) :
    Calls Tryd.prog 5 #[.int .i64 S, .int .i64 D, vl] w fun e w' => e = .returned (.bool true) ∧ Below w.heap.size w w' := by
  have HE := hidden (fun W => new_err S D W (by omega))
  have HR := hidden first_row
  have HG := hidden hg
  have d0 : decide (S < 0) = false := by simpa using h0
  have d1 : decide (65535 < S) = false := by simpa using h1
  have d2 : decide (D < 0) = true := by simpa using h2
  clear hg
  go_enter Tryd.func5, Tryd.ntmps5
  go_wp2_with fail
  refine (HR.out _).mono ?_
  rintro e w1 ⟨rfl, hb1⟩
  have HB1 := hidden hb1
  have HG1 := hidden (hg_of HG.out hb1)
  clear hb1
  go_wp2_with fail
  refine (Told.same_err 3 3 _ (by decide) (by decide) HG1.out).mono ?_
  rintro e w2 ⟨rfl, hb2⟩
  have HB2 : Hid (Below w.heap.size w w2) := HB1.out.trans (hb2.mono HB1.out.size)
  clear hb2 HB1 HG1
  go_wp2_with fail
  refine (HE.out _).mono ?_
  rintro e w3 ⟨rfl, rfl⟩
  go_wp2_with fail
  go_ret
  exact ⟨rfl, HB2.out⟩
set_option maxHeartbeats 4000000 in
set_option maxRecDepth 100000 in
theorem walk_e3 (S D : Int) (vl : Value) (w : World) (hg : w.cell? ⟨0, 0, none⟩ = some (.iface 76 (.agg #[.pointer (some ⟨1, 29, none⟩)]))) (h0 : ¬ S < 0) (h1 : ¬ 65535 < S) (h2 : ¬ D < 0) (h3 : 4294967295 < D) :
    Calls Tryd.prog 5 #[.int .i64 S, .int .i64 D, vl] w fun e w' => e = .returned (.bool true) ∧ Below w.heap.size w w' := by
  have HE := hidden (fun W => new_err S D W (by omega))
  have HR := hidden first_row
  have HG := hidden hg
  have d0 : decide (S < 0) = false := by simpa using h0
  have d1 : decide (65535 < S) = false := by simpa using h1
  have d2 : decide (D < 0) = false := by simpa using h2
  have d3 : decide (4294967295 < D) = true := by simpa using h3
  clear hg
  go_enter Tryd.func5, Tryd.ntmps5
  go_wp2_with fail
  refine (HR.out _).mono ?_
  rintro e w1 ⟨rfl, hb1⟩
  have HB1 := hidden hb1
  have HG1 := hidden (hg_of HG.out hb1)
  clear hb1
  go_wp2_with fail
  refine (Told.same_err 3 3 _ (by decide) (by decide) HG1.out).mono ?_
  rintro e w2 ⟨rfl, hb2⟩
  have HB2 : Hid (Below w.heap.size w w2) := HB1.out.trans (hb2.mono HB1.out.size)
  clear hb2 HB1 HG1
  go_wp2_with fail
  refine (HE.out _).mono ?_
  rintro e w3 ⟨rfl, rfl⟩
  go_wp2_with fail
  go_ret
  exact ⟨rfl, HB2.out⟩
set_option maxHeartbeats 8000000 in
set_option maxRecDepth 100000 in
theorem walk_ok (S D : Int) (va : Option Addr) (ln cn : Nat) (In : List Pk) (w : World) (hg : w.cell? ⟨0, 0, none⟩ = some (.iface 76 (.agg #[.pointer (some ⟨1, 29, none⟩)]))) (h0 : 0 ≤ S) (h1 : S ≤ 65535) (h2 : 0 ≤ D) (h3 : D ≤ 4294967295) (hF : Came w va ln cn In) :
    Calls Tryd.prog 5 #[.int .i64 S, .int .i64 D, .slice va ln cn] w fun e w' => e = .returned (.bool true) ∧ Below w.heap.size w w' := by
  have HN := hidden (fun W => new_ok S D W h0 h1 h2 h3)
  have HR := hidden first_row
  have HG := hidden hg
  have hln := hF.1.2.1
  have HF := hidden hF
  obtain ⟨i0, hii, hz0, hz1, hz2⟩ := info_parts infoPK
  clear hF hg
  go_enter Tryd.func5, Tryd.ntmps5
  go_wp2_with fail
  refine (HR.out _).mono ?_
  rintro e w1 ⟨rfl, hb1⟩
  have HB1 := hidden hb1
  have HG1 := hidden (hg_of HG.out hb1)
  clear hb1
  go_wp2_with fail
  refine (Told.same_err 3 3 _ (by decide) (by decide) HG1.out).mono ?_
  rintro e w2 ⟨rfl, hb2⟩
  have HB2 : Hid (Below w.heap.size w w2) := HB1.out.trans (hb2.mono HB1.out.size)
  clear hb2 HB1 HG1
  go_wp2_with fail
  refine (HN.out _).mono ?_
  rintro e w3 ⟨b, rfl, hb, hL, hB⟩
  have HS0 : Hid (LSt w w3 b S 0 D 0 0 (.slice none 0 0) (.slice none 0 0) [] []) := by
    have hbb := HB2.out.trans (hB.mono HB2.out.size)
    have hbs := HB2.out.size
    exact ⟨Rws.start hbb (by omega) hL.lt, hL, UM.inv_start h0 h1 h2 h3, ⟨rfl, fun i hi => absurd hi (by simp)⟩, rfl⟩
  clear hb hL hB HN HR HB2
  go_wp2_with fail
  go_loopg [12, 13, 14] 60 (fun g u12 u13 u14 wr => ∃ (i k : Nat) (T ly ow : Int) (gv sv : Value) (X Y : List Pk), i + g = 60 ∧ k ≤ i ∧ sv = u12 ∧ gv = u13 ∧ u14 = .int .i64 (i : Int) ∧ Hid (LSt w wr b S k T ly ow gv sv X Y))
  case atStart => exact ⟨0, 0, D, 0, 0, _, _, [], [], by omega, by omega, rfl, rfl, rfl, HS0⟩
  case round =>
    obtain ⟨i, k, T, ly, ow, gv, sv, X, Y, hig, hki, rfl, rfl, rfl, HSr⟩ := hrel
    clear HS0
    by_cases hi : i < ln ∧ i < 60
    case neg =>
      have K6 : Hid (¬ ((i : Int) < (ln : Int) ∧ (i : Int) < 60)) := by unfold Hid; omega
      have hk60 : k ≤ 60 := by omega
      have HL60 : Hid (X.length ≤ 60) := by unfold Hid; rw [HSr.out.len]; omega
      clear hi
      go_upto_region 10 with fail
      go_cut [67] from 60 to 67 (fun s wx => s = .bool false ∧ wr = wx)
      case first =>
        by_cases z1 : (i : Int) < (ln : Int)
        · have d1 : decide ((i : Int) < (ln : Int)) = true := by simpa using z1
          have z2 : ¬ (i : Int) < 60 := fun h => K6.out ⟨z1, h⟩
          go_wp2_with fail
          go_meet
          exact ⟨rfl, rfl⟩
        · have d1 : decide ((i : Int) < (ln : Int)) = false := by simpa using z1
          go_wp2_with fail
          go_meet
          exact ⟨rfl, rfl⟩
      case rest =>
      obtain ⟨rfl, rfl⟩ := hcut
      clear K6
      have C1 := hidden (end_row HSr.out.rws HSr.out.ali HL60.out)
      go_wp2_with fail
      refine C1.out.mono ?_
      rintro e w5 ⟨rfl, hb⟩
      have HS5 := hidden (HSr.out.below hb)
      clear hb HSr C1
      have C2 := hidden (end_check HS5.out.rws HS5.out.ali HL60.out)
      go_wp2_with fail
      refine C2.out.mono ?_
      rintro e w6 ⟨rfl, hb⟩
      have HS6 := hidden (HS5.out.below hb)
      clear hb HS5 C2
      have C3 := hidden (end_holes HS6.out.rws HS6.out.ali HL60.out)
      go_wp2_with fail
      refine C3.out.mono ?_
      rintro e w7 ⟨ah, nh, ch, Lh, rfl, hnh, hA, hz, hb⟩
      have HS7 := hidden (HS6.out.below hb)
      have HA := hidden hA
      have HZ := hidden hz
      clear hb HS6 C3 hA hz
      go_wp2_with fail
      go_loopg [22] nh (fun g u wr => ∃ j : Nat, j + g = nh ∧ u = .int .i64 (j : Int) ∧ w7 = wr)
      case atStart => exact ⟨0, by omega, rfl, rfl⟩
      case round =>
        obtain ⟨j, hjg, rfl, rfl⟩ := hrel
        by_cases hj : j < nh
        · have hjz : (j : Int) < (nh : Int) := by omega
          obtain ⟨bh, oh, rfl, hcs⟩ := HA.out.at (by omega)
          have c0 := hcs j hj
          rw [HZ.out j hj] at c0
          clear hcs
          go_wp2_with fail
          go_roundg (nh - (j + 1))
          case measure => omega
          case rel => exact ⟨j + 1, by omega, by go_num, rfl⟩
        · have hjz : ¬ (j : Int) < (nh : Int) := by omega
          go_wp2_with fail
          go_ret
          exact ⟨rfl, HS7.out.rws.bel⟩
    case pos =>
    have hiz : (i : Int) < (ln : Int) := by omega
    have di : decide ((i : Int) < (ln : Int)) = true := by simpa using hiz
    have hiz8 : (i : Int) < 60 := by omega
    have hl60 : X.length ≤ 60 := by rw [HSr.out.len]; omega
    have hly : Y.length ≤ 60 := by have := HSr.out.ali.len; omega
    obtain ⟨ib, io, rfl, hcs⟩ := HF.out.1.at (by omega)
    have hin := hcs i hi.1
    have hnn := HF.out.2.2.2 (In.getD i noPk) (by rw [List.getD_eq_getElem?_getD, List.getElem?_eq_getElem (by have := HF.out.1.1; omega)]; exact List.getElem_mem _)
    obtain ⟨p, hp⟩ : ∃ p, In.getD i noPk = p := ⟨_, rfl⟩
    rw [hp] at hin hnn
    have HIn := hidden hin
    have HNn := hidden hnn
    clear hp hcs hin hnn
    obtain ⟨c0, c1, c2, c3, c4, c5⟩ := HIn.out.1.below HSr.out.rws.bel
    by_cases hf : pf p = 0
    case neg =>
      have HC := hidden (next_err b S k T ly ow p.s p.t p.l p.q p.st p.a p.m p.c wr HSr.out.out hf)
      have hpf : fault p.s p.t p.l p.q p.m = pf p := rfl
      rw [hpf] at HC
      generalize pf p = f at *
      have hcmp := cmp_eq f
      have hgrd := grd_eq f
      rw [decide_eq_false hf] at hcmp
      clear hpf hf
      go_wp2_with fail
      refine HC.out.mono ?_
      rintro e w4 ⟨rfl, hb⟩
      have HS4 := hidden (HSr.out.below hb)
      have HB4 : Hid (∀ O, LSt w (w4.alloc O) b S k T ly ow gv sv X Y) := fun O => HS4.out.below ((Below.refl _ _).alloc (Nat.le_refl _) O)
      clear hb HC HSr c0 c1 c2 c3 c4 c5
      go_wp2_with fail
      go_roundg (60 - (i + 1))
      case measure => omega
      case rel => exact ⟨i + 1, k, T, ly, ow, gv, sv, X, Y, by omega, by omega, rfl, rfl, by go_num, HB4.out _⟩
    case pos =>
    have HC := hidden (HSr.out.next p (by omega) hf (HIn.out.2.below HSr.out.rws.bel) HNn.out)
    have HAl := hidden HSr.out.ali
    have HLen := hidden HSr.out.len
    simp only [pv] at HC
    generalize nt k T ly ow p.l p.t = T' at *
    clear hf HSr
    go_wp2_with fail
    refine HC.out.mono ?_
    rintro e w4 ⟨p', rfl, hR, hO, hI, hB, hlk, hpf, hs⟩
    obtain ⟨w5, hw5⟩ : ∃ w5, w4.alloc (.cells #[.int .i64 p'.s, .int .i64 p'.t, .int .i64 p'.l, .int .i64 p'.q, .bool p'.st, .slice p'.a p'.m p'.c] 27) = w5 := ⟨_, rfl⟩
    have hbl : Below w4.heap.size w4 w5 := by rw [← hw5]; exact (Below.refl _ _).alloc (Nat.le_refl _) _
    have HR5 := hidden (hR.below hbl)
    have HO5 := hidden (hO.below hbl)
    have HI5 := hidden hI
    have HB5 : Hid (Bd w5 (fp b gv sv) p') := hB.only (Only.of_below hbl _) (fun x hx => .inl hx)
    have HX5 : Hid (Box w5 w4.heap.size p'.s p'.t p'.l p'.q p'.st (.slice p'.a p'.m p'.c)) := by rw [← hw5]; exact Box.new w4 _ _ _ _ _ _
    have HA5 : Hid (Alike S (X ++ [p']) (Y ++ [p])) := HAl.out.add hlk hpf hs
    have HW5 := hidden hw5
    clear hw5 hR hO hI hB hlk hpf hs hbl HC HAl c0 c1 c2 c3 c4 c5
    go_upto_region 13 with fail
    rw [HW5.out]
    clear HW5
    obtain ⟨xb, hxb⟩ : ∃ xb, w4.heap.size = xb := ⟨_, rfl⟩
    rw [hxb] at HX5
    rw [hxb]
    clear hxb
    obtain ⟨x0, x1, x2, x3, x4, x5⟩ := HX5.out.cells
    go_wp2_with (at_builtin; refine wpList_append_lies _ rfl _ _ 22 rfl w.heap.size 27 i0 _ 6 64 Tryd.underlying22 hii hz0 hz1 hz2 rfl (by decide) gv X.length (flat X) rfl (HR5.out.got.alloc _) ⟨w5.heap.size, 0, none⟩ 1 1 (pc p') rfl rfl (lit6 p') (pc_one p') (by decide) ?b1 ?b2 ?b3 (w5.heap.size + 1) (by simp) ?next)
    case b1 => unfold maxLen; omega
    case b2 => omega
    case b3 => have := HR5.out.bel.size; simp; omega
    case next =>
    intro g6 cap6 w6 hown hgrow hlies hlt
    have HR6 := hidden (HR5.out.addG HB5.out hown hgrow hlies hlt)
    have HO6 : Hid (OutAt w6 b S (k + 1) T' p.l p.t) := by
      have ho : Only gv.ownBlock.toList w5 w6 := (((Only.refl _ w5).alloc _).grown hgrow (fun k e => by simp [e]))
      exact HO5.out.only ho (by have := HR5.out.n1; simp; exact this)
    clear hown hgrow hlies hlt x0 x1 x2 x3 x4 x5 HX5 HB5 HR5 HO5
    have HBp : Hid (Bd w6 (fp b (.slice (some ⟨g6, 0, none⟩) (X.length + 1) cap6) sv) p) := Bd.old HIn.out.2 HNn.out HR6.out.bel (fun x hx => (HR6.out.fpb x hx).1)
    obtain ⟨c0, c1, c2, c3, c4, c5⟩ := HIn.out.1.below HR6.out.bel
    go_wp2_with (at_builtin; refine wpList_append_lies _ rfl _ _ 22 rfl w.heap.size 27 i0 _ 6 64 Tryd.underlying22 hii hz0 hz1 hz2 rfl (by decide) sv Y.length (flat Y) rfl (HR6.out.snt.alloc _) ⟨w6.heap.size, 0, none⟩ 1 1 (pc p) rfl rfl (lit6 p) (pc_one p) (by decide) ?b1 ?b2 ?b3 (w6.heap.size + 1) (by simp) ?next)
    case b1 => unfold maxLen; omega
    case b2 => omega
    case b3 => have := HR6.out.bel.size; simp; omega
    case next =>
    intro g7 cap7 w7 hown hgrow hlies hlt
    have HS7 : Hid (LSt w w7 b S (k + 1) T' p.l p.t (.slice (some ⟨g6, 0, none⟩) (X.length + 1) cap6) (.slice (some ⟨g7, 0, none⟩) (Y.length + 1) cap7) (X ++ [p']) (Y ++ [p])) := by
      have ho : Only sv.ownBlock.toList w6 w7 := (((Only.refl _ w6).alloc _).grown hgrow (fun k e => by simp [e]))
      exact ⟨HR6.out.addS HBp.out hown hgrow hlies hlt, HO6.out.only ho (by have := HR6.out.n2; simp; exact this), HI5.out, HA5.out, by rw [List.length_append, List.length_singleton, HLen.out]⟩
    clear hown hgrow hlies hlt c0 c1 c2 c3 c4 c5
    go_wp2_with fail
    go_roundg (60 - (i + 1))
    case measure => omega
    case rel => exact ⟨i + 1, k + 1, T', p.l, p.t, _, _, _, _, by omega, by omega, rfl, rfl, by go_num, HS7⟩
theorem walk (S D : Int) (va : Option Addr) (ln cn : Nat) (In : List Pk) (w : World) (hg : w.cell? ⟨0, 0, none⟩ = some (.iface 76 (.agg #[.pointer (some ⟨1, 29, none⟩)]))) (hF : Came w va ln cn In) :
    Calls Tryd.prog 5 #[.int .i64 S, .int .i64 D, .slice va ln cn] w fun e w' => e = .returned (.bool true) ∧ Below w.heap.size w w' := by
  by_cases h0 : S < 0
  · exact walk_e0 S D _ w hg h0
  by_cases h1 : 65535 < S
  · exact walk_e1 S D _ w hg h0 h1
  by_cases h2 : D < 0
  · exact walk_e2 S D _ w hg h0 h1 h2
  by_cases h3 : 4294967295 < D
  · exact walk_e3 S D _ w hg h0 h1 h2 h3
  · exact walk_ok S D va ln cn In w hg (by omega) (by omega) (by omega) (by omega) hF
end Go.Proofs.YtjnkgbdpacdgpaaDoor.ARows

