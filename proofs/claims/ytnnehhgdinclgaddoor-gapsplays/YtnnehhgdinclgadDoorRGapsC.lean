/-
  What the reference's method Hear returns of a number that is not above all, and one row for all that it may be given. Its condition: what is lacking is such as it may be.
-/
import Derived.Test.YtnnehhgdinclgadDoorRGapsB
namespace Go.Proofs.YtnnehhgdinclgadDoor.RGaps
open Go.ChangeShapes Go.WideShapes Go.ChangeAt Go.RowKit Go.Proofs.YtnnehhgdinclgadDoor.Mem Go.Proofs.YtnnehhgdinclgadDoor.GM Go.Proofs.YtnnehhgdinclgadDoor.Gaps
set_option linter.unusedVariables false

/-- what is left of a list, so far -/
def part (y : Int) (M : Its) (k : Nat) : Its := (M.take k).filter fun i => decide (i.n ≠ y)
theorem part_keep {y : Int} {M : Its} {k : Nat} {i : Lk} (hi : M[k]? = some i) (h : i.n ≠ y) : part y M (k + 1) = part y M k ++ [i] := by
  unfold part
  rw [List.take_add_one, hi]
  simp [h]
theorem part_drop {y : Int} {M : Its} {k : Nat} {i : Lk} (hi : M[k]? = some i) (h : i.n = y) : part y M (k + 1) = part y M k := by
  unfold part
  rw [List.take_add_one, hi]
  simp [h]
theorem part_all (y : Int) (M : Its) : part y M M.length = M.filter fun i => decide (i.n ≠ y) := by simp [part]
theorem part_len (y : Int) (M : Its) (k : Nat) : (part y M k).length ≤ k := by
  unfold part
  have := List.length_filter_le (fun i : Lk => decide (i.n ≠ y)) (M.take k)
  simp at this ⊢
  omega
theorem was_has (y : Int) (M : Its) : decide ((M.filter fun i => decide (i.n ≠ y)).length < M.length) = has M y := by
  rw [Bool.eq_iff_iff, decide_eq_true_eq, has_iff]
  constructor
  · intro h
    by_cases c : ∃ i ∈ M, i.n = y
    · exact c
    · have : (M.filter fun i => decide (i.n ≠ y)) = M := by
        rw [List.filter_eq_self]
        intro i hi
        simp
        exact fun e => c ⟨i, hi, e⟩
      rw [this] at h
      omega
  · rintro ⟨i, hi, e⟩
    have : (M.filter fun i => decide (i.n ≠ y)).length < M.length := by
      rw [List.length_filter_lt_length_iff_exists]
      exact ⟨i, hi, by simp [e]⟩
    omega
/-- under way: the list as it was, and what is left of it so far -/
structure FSt (w wr : World) (B base b : Nat) (ag tr now T y : Int) (M : Its) (lv gv : Value) (G : List Int) (v : Value) (m k : Nat) : Prop where
  ref : RefAt wr base b ag tr now T M lv G gv
  row : wr.ownsRow B 87 3 v m (flat (part y M k))
  mm : m = (part y M k).length
  s1 : w.heap.size ≤ B
  s2 : B ≤ wr.heap.size
  lts : ∀ j ∈ rblks b lv gv, j < B
  only : Only [b] w wr
theorem FSt.drop {w wr : World} {B base b : Nat} {ag tr now T y : Int} {M : Its} {lv gv : Value} {G : List Int} {v : Value} {m k : Nat} {i : Lk} (h : FSt w wr B base b ag tr now T y M lv gv G v m k) (hi : M[k]? = some i) (hx : i.n = y) : FSt w wr B base b ag tr now T y M lv gv G v m (k + 1) := by
  have e := part_drop hi hx
  exact { h with row := by rw [e]; exact h.row, mm := by rw [e]; exact h.mm }
theorem FSt.keep {w wr wy : World} {B base b : Nat} {ag tr now T y : Int} {M : Its} {lv gv : Value} {G : List Int} {v v' : Value} {m k : Nat} {i : Lk} {O : Obj} (h : FSt w wr B base b ag tr now T y M lv gv G v m k) (hi : M[k]? = some i) (hx : i.n ≠ y) (hg : (wr.alloc O).grownBy wy v.ownBlock) (hown : wy.ownsRow B 87 3 v' (m + 1) (flat (part y M k) ++ lkC i)) :
    FSt w wy B base b ag tr now T y M lv gv G v' (m + 1) (k + 1) := by
  have e := part_keep hi hx
  have ho : Only v.ownBlock.toList wr wy := ((Only.refl _ _).alloc O).trans ((Only.refl _ _).grown hg (by simp))
  have hB : ∀ j, v.ownBlock = some j → B ≤ j := fun j hj => (h.row.lt j hj).1
  have s1 := h.s1
  refine ⟨h.ref.only ho ?_, by rw [e, flat_app, flat_one]; exact hown, by rw [e]; simp [h.mm], h.s1, Nat.le_trans h.s2 ho.2.2.2.1, h.lts, past h.only ho (fun j hj => .inr (by have := hB j (by simpa using hj); omega))⟩
  intro j hj hc
  have := hB j (by simpa using hc)
  have := h.lts j hj
  omega
theorem FSt.fin {w wr : World} {B base b : Nat} {ag tr now T y : Int} {M : Its} {lv gv : Value} {G : List Int} {av : Option Addr} {cv m : Nat} (h : FSt w wr B base b ag tr now T y M lv gv G (.slice av m cv) m M.length) (hbase : base ≤ w.heap.size) :
    RefAt (wr.setCell ⟨b, 4, none⟩ (.slice av m cv)) base b ag tr now T (M.filter fun i => decide (i.n ≠ y)) (.slice av m cv) G gv ∧ Only [b] w (wr.setCell ⟨b, 4, none⟩ (.slice av m cv)) ∧ m = (M.filter fun i => decide (i.n ≠ y)).length := by
  have hr := h.row
  have hm := h.mm
  rw [part_all] at hr hm
  have s1 := h.s1
  have oB : Only [b] wr (wr.setCell ⟨b, 4, none⟩ (.slice av m cv)) := (Only.refl _ _).setCell (by simp) _
  have hbB := h.lts b (by simp [rblks])
  refine ⟨⟨setb h.ref.box 4 _, ?_, oB.owns h.ref.gave (fun k hk => by simp; exact h.ref.ne.2 k hk)⟩, h.only.setCell (by simp) _, hm⟩
  rw [← hm]
  refine own_base (oB.owns hr ?_) (Nat.le_trans hbase s1)
  intro j hj hc
  have := (h.row.lt j hj).1
  simp at hc
  omega

set_option maxHeartbeats 4000000 in
set_option maxRecDepth 100000 in
theorem rhear_old (base b : Nat) (ag tr nw T y now : Int) (M : Its) (lv gv : Value) (G : List Int) (w : World) (h : RefAt w base b ag tr nw T M lv G gv) (hl : M.length ≤ 200) (hbase : base ≤ w.heap.size) (ht : tf nw now = 0) (h0 : 0 ≤ y) (h1 : y ≤ 1099511627776) (hT : 0 ≤ T) (hTy : ¬ T < y) :
    Calls Tryd.prog 19 #[.pointer (some ⟨b, 0, none⟩), .int .i64 y, .int .i64 now] w fun e w' => e = .returned (.tuple #[.bool (has M y), .int .i64 0]) ∧ ∃ lv2, RefAt w' base b ag tr now T (M.filter fun i => decide (i.n ≠ y)) lv2 G gv ∧ (∀ k, lv2.ownBlock = some k → lv.ownBlock = some k ∨ w.heap.size ≤ k) ∧ Only (b :: lv.ownBlock.toList) w w' := by
  obtain ⟨i0, hii, hz0, hz1, hz2⟩ := info_parts infoLK
  have HC := hidden (fun w h => time_ok b nw now w h ht)
  have HL := hidden (fun w => rlong_yes y w h0 h1)
  have HW := hidden (was_has y M)
  obtain ⟨hb, hhb⟩ : ∃ hb, has M y = hb := ⟨_, rfl⟩
  rw [hhb] at HW ⊢
  obtain ⟨M2, hM2⟩ : ∃ M2, (M.filter fun i => decide (i.n ≠ y)) = M2 := ⟨_, rfl⟩
  rw [hM2] at HW ⊢
  have HM2 := hidden hM2
  have HR := hidden h
  obtain ⟨la, lc, rfl, hfm⟩ := ref_form h.row
  have HF := hidden hfm
  obtain ⟨c0, c1, c2, c3, c4, c5⟩ := cells6 h.box
  have d1 : decide (0 ≤ T) = true := by simpa using hT
  have d2 : decide (T < y) = false := by simpa using hTy
  have d4 : ¬ T < 0 := by omega
  clear ht h hfm hhb hM2
  go_enter Tryd.func19, Tryd.ntmps19
  go_wp2_with fail
  refine (HC.out _ (by exact c2)).mono ?_
  rintro e w1 ⟨rfl, rfl⟩
  go_wp2_with fail
  refine (HL.out _).mono ?_
  rintro e w1 ⟨rfl, rfl⟩
  go_wp2_with fail
  go_quiet (fail)
  obtain ⟨w2, hw2⟩ : ∃ w2, w1.drewN nq = w2 := ⟨_, rfl⟩
  rw [hw2]
  have HR2 : Hid (RefAt w2 base b ag tr nw T M (.slice la M.length lc) G gv) := by rw [← hw2]; exact HR.out.below (below_drewN (Below.refl _ _) _)
  have HO2 : Hid (Only [b] w1 w2) := by rw [← hw2]; exact (Only.refl _ _).drewN _
  clear hw2 HR c0 c1 c2 c3 c4 c5 HC HL
  obtain ⟨c0, c1, c2, c3, c4, c5⟩ := cells6 HR2.out.box
  have f2 := free6 HR2.out.box 2
  have HR3 := hidden (HR2.out.set (nw' := now) (T' := T) 2 (.int .i64 now) rfl)
  have k3 := (cells6 HR3.out.box).2.2.2.1
  have HF0 : Hid (FSt w1 (w2.setCell ⟨b, 2, none⟩ (.int .i64 now)) w2.heap.size base b ag tr now T y M (.slice la M.length lc) gv G (.slice none 0 0) 0 0) :=
    ⟨HR3.out, by simpa [part, flat] using World.ownsRow_nil (w2.setCell ⟨b, 2, none⟩ (.int .i64 now)) w2.heap.size 87 3, by simp [part], HO2.out.2.2.2.1, by simp [World.setCell], HR2.out.lt, HO2.out.setCell (by simp) _⟩
  go_wp2_with fail
  clear c0 c1 c2 c3 c4 c5 f2 k3
  obtain ⟨B, hB⟩ : ∃ B, w2.heap.size = B := ⟨_, rfl⟩
  rw [hB] at HF0
  clear hB
  go_loopg [11, 12] M.length (fun g v' i' wr => ∃ (k m : Nat) (va : Option Addr) (vc : Nat), k + g = M.length ∧ v' = .slice va m vc ∧ i' = .int .i64 (k : Int) ∧ Hid (FSt w1 wr B base b ag tr now T y M (.slice la M.length lc) gv G (.slice va m vc) m k))
  case atStart => exact ⟨0, 0, none, 0, by omega, rfl, rfl, HF0⟩
  case round =>
    obtain ⟨k, m, va, vc, hkg, rfl, rfl, HS⟩ := hrel
    clear HF0
    obtain ⟨c0, c1, c2, c3, c4, c5⟩ := cells6 HS.out.ref.box
    by_cases hk : k < M.length
    · have hkz : (k : Int) < (M.length : Int) := by omega
      obtain ⟨g, rfl, hgb⟩ := HF.out (by omega)
      obtain ⟨x, hx⟩ : ∃ x, M[k]? = some x := ⟨_, List.getElem?_eq_getElem hk⟩
      obtain ⟨r0, r1, r2⟩ := ref_cell HS.out.ref.row hx
      have HX := hidden hx
      have hmk : m ≤ 200 := by have := HS.out.mm; have := part_len y M k; omega
      have HLk : Hid (lkC x = [.int .i64 x.n, .int .i64 x.t, .int .i64 x.a]) := rfl
      obtain ⟨xn, hxn⟩ : ∃ xn, x.n = xn := ⟨_, rfl⟩
      rw [hxn] at r0 HLk
      have HXn := hidden hxn
      clear hx hxn
      by_cases hxy : xn = y
      · have d5 : (xn != y) = false := by simpa using hxy
        have HXy := hidden hxy
        clear hxy
        go_wp2_with fail
        go_roundg (M.length - (k + 1))
        case measure => omega
        case rel => exact ⟨k + 1, m, va, vc, by omega, rfl, by go_num, HS.out.drop HX.out (HXn.out.trans HXy.out)⟩
      · have d5 : (xn != y) = true := by simpa using hxy
        have HXy := hidden hxy
        clear hxy
        go_wp2_with (at_builtin; refine wpList_append_own _ rfl _ _ 56 rfl B 87 i0 _ 3 24 Tryd.underlying56 hii hz0 hz1 hz2 rfl (by decide) _ m (flat (part y M k)) rfl (HS.out.row.alloc _) ⟨wr.heap.size, 0, none⟩ 1 1 [.int .i64 xn, .int .i64 x.t, .int .i64 x.a] rfl rfl (World.news_of_block (cs := #[.int .i64 xn, .int .i64 x.t, .int .i64 x.a]) (t := 87) (fr := (0, 0)) (heap_alloc_new wr _)) ?c2 ?b1 ?b2 ?b3 ?next)
        case c2 => intro u hu'; simp at hu'; rcases hu' with rfl | rfl | rfl <;> rfl
        case b1 => unfold maxLen; omega
        case b2 => omega
        case b3 => have := HS.out.s2; simp; omega
        case next =>
          intro v' w5 hown hgrow _
          obtain ⟨g', c', rfl⟩ : ∃ g' c', v' = .slice (some ⟨g', 0, none⟩) (m + 1) c' := by
            rcases hown.2 with ⟨_, h⟩ | ⟨g', c', _, h, _⟩
            · omega
            · exact ⟨g', c', h⟩
          have HF5 := hidden (HS.out.keep HX.out (by rw [HXn.out]; exact HXy.out) hgrow (by rw [HLk.out]; exact hown))
          clear hown hgrow
          go_wp2_with fail
          go_roundg (M.length - (k + 1))
          case measure => omega
          case rel => exact ⟨k + 1, m + 1, some ⟨g', 0, none⟩, c', by omega, rfl, by go_num, HF5⟩
    · have hkz : ¬ (k : Int) < (M.length : Int) := by omega
      obtain rfl : k = M.length := by omega
      obtain ⟨e1, e2, e3⟩ := HS.out.fin hbase
      rw [HM2.out] at e1 e3
      have HE1 := hidden e1
      have HE2 := hidden e2
      have HE3 := hidden e3
      have f4 := free6 HS.out.ref.box 4
      have hmk : m ≤ 200 := by have := HS.out.mm; have := part_len y M M.length; omega
      have HBB := hidden (fun j hj => (HS.out.row.lt j hj).1)
      have HS1 := hidden HS.out.s1
      clear e1 e2 e3 HS
      go_wp2_with fail
      go_ret2
      refine ⟨?_, _, HE1.out, ?_, HE2.out.mono (by simp)⟩
      · have := HW.out
        rw [← HE3.out] at this
        show Ending.returned (.tuple #[.bool (decide (m < M.length)), .int .i64 0]) = _
        rw [this]
      · intro j hj
        have h1 := HBB.out j hj
        have h2 := HS1.out
        exact .inr (by omega)

theorem rhear_calls (base b : Nat) (ag tr nw T y now : Int) (M : Its) (lv gv : Value) (G : List Int) (w : World) (h : RefAt w base b ag tr nw T M lv G gv) (hI : GM.Inv ag tr nw T M) (hbase : base ≤ w.heap.size) :
    Calls Tryd.prog 19 #[.pointer (some ⟨b, 0, none⟩), .int .i64 y, .int .i64 now] w fun e w' => e = .returned (.tuple #[.bool (hB nw T M y now), .int .i64 (hf nw T M y now : Nat)]) ∧
      ∃ lv2, RefAt w' base b ag tr (hN nw T M y now) (hU nw T M y now) (hL nw T M y now) lv2 G gv ∧ Only (b :: lv.ownBlock.toList) w w' := by
  have hl := hI.len
  have ht1 := hI.t1
  have same : ∀ w', hf nw T M y now ≠ 0 → Below w.heap.size w w' → hB nw T M y now = false ∧ ∃ lv2, RefAt w' base b ag tr (hN nw T M y now) (hU nw T M y now) (hL nw T M y now) lv2 G gv ∧ Only (b :: lv.ownBlock.toList) w w' := by
    intro w' h0 hb
    unfold hB hN hU hL
    simp only [h0, decide_false, Bool.false_and, if_false]
    exact ⟨trivial, lv, h.below hb, Only.of_below hb _⟩
  by_cases ht : tf nw now = 0
  case neg =>
    have e1 : hf nw T M y now = tf nw now := by unfold hf; rw [if_pos ht]
    refine (rhear_time b nw y now w (cells6 h.box).2.2.1 ht).mono ?_
    rintro e w' ⟨rfl, hb⟩
    obtain ⟨q1, q2⟩ := same w' (by rw [e1]; exact ht) hb
    exact ⟨by rw [q1, e1], q2⟩
  by_cases hy : y < 0 ∨ 1099511627776 < y
  · have e1 : hf nw T M y now = 1 := by unfold hf; rw [if_neg (by simp [ht]), if_pos hy]
    refine (rhear_range b nw y now w (cells6 h.box).2.2.1 ht hy).mono ?_
    rintro e w' ⟨rfl, hb⟩
    obtain ⟨q1, q2⟩ := same w' (by rw [e1]; omega) hb
    exact ⟨by rw [q1, e1]; rfl, q2⟩
  by_cases hfl : 200 < (M.length : Int) + lo T y
  · have e1 : hf nw T M y now = 4 := by unfold hf; rw [if_neg (by simp [ht]), if_neg hy, if_pos hfl]
    have hq : 0 ≤ T ∧ T < y ∧ lo T y = y - T - 1 := by
      unfold lo at hfl ⊢
      split at hfl
      · omega
      · rename_i q
        rw [if_neg q]
        omega
    refine (rhear_full base b ag tr nw T y now M lv gv G w h hl ht (by omega) (by omega) hq.1 hq.2.1 (by omega)).mono ?_
    rintro e w' ⟨rfl, hb⟩
    obtain ⟨q1, q2⟩ := same w' (by rw [e1]; omega) hb
    exact ⟨by rw [q1, e1]; rfl, q2⟩
  have e1 : hf nw T M y now = 0 := by unfold hf; rw [if_neg (by simp [ht]), if_neg hy, if_neg hfl]
  have eN : hN nw T M y now = now := by unfold hN; rw [if_pos e1]
  by_cases hT : T < y
  · have eB : hB nw T M y now = true := by unfold hB hx; simp [e1, hT]
    have eU : hU nw T M y now = y := by unfold hU GM.hT; rw [if_pos e1, if_pos hT]
    have eL : hL nw T M y now = M ++ fresh T (lo T y).toNat := by unfold hL hM; rw [if_pos e1, if_pos hT]
    rw [eB, e1, eN, eU, eL]
    by_cases hT0 : T < 0
    · have hlo : lo T y = 0 := by unfold lo; rw [if_pos (.inl (by omega))]
      refine (rhear_first base b ag tr nw T y now M lv gv G w h ht (by omega) (by omega) hT0).mono ?_
      rintro e w' ⟨rfl, h1, h2⟩
      refine ⟨rfl, lv, ?_, h2.mono (by simp)⟩
      rw [hlo]
      simpa [fresh] using h1
    · have hlo : lo T y = y - T - 1 := by unfold lo; rw [if_neg (by omega)]
      refine (rhear_rise base b ag tr nw T y now M lv gv G w h hbase ht (by omega) (by omega) (by omega) hT (by omega)).mono ?_
      rintro e w' ⟨rfl, lv2, h1, _, h2⟩
      exact ⟨rfl, lv2, h1, h2⟩
  · have eB : hB nw T M y now = has M y := by unfold hB hx; simp [e1, hT]
    have eU : hU nw T M y now = T := by unfold hU GM.hT; rw [if_pos e1, if_neg hT]
    have eL : hL nw T M y now = M.filter fun i => decide (i.n ≠ y) := by unfold hL hM; rw [if_pos e1, if_neg hT]
    rw [eB, e1, eN, eU, eL]
    refine (rhear_old base b ag tr nw T y now M lv gv G w h hl hbase ht (by omega) (by omega) (by omega) hT).mono ?_
    rintro e w' ⟨rfl, lv2, h1, _, h2⟩
    exact ⟨rfl, lv2, h1, h2⟩
end Go.Proofs.YtnnehhgdinclgadDoor.RGaps
