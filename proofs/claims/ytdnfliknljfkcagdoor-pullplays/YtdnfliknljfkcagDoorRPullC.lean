/-
  What Who, Changed and Ask of the reference's Pull return, and what they leave in memory; what the functions Ints and Wants of package choirsame return of rows that are the same. Their condition: what is kept is such as it may be.
-/
import Derived.Test.YtdnfliknljfkcagDoorRPullB
import Derived.Test.YtdnfliknljfkcagDoorPullE
import Derived.Test.YtdnfliknljfkcagDoorPSorted
import Derived.Laws.StructEq
namespace Go.Proofs.YtdnfliknljfkcagDoor.RPull
open Go.ChangeShapes Go.WideShapes Go.ChangeAt Go.RowKit Go.Proofs.YtdnfliknljfkcagDoor.Mem Go.Proofs.YtdnfliknljfkcagDoor.PU Go.Proofs.YtdnfliknljfkcagDoor.Pull
set_option linter.unusedVariables false

/-- who wants a track, of the first k -/
def OSt (w wr : World) (L : Wts) (t : Int) (k m : Nat) (v : Value) : Prop := Below w.heap.size w wr ∧ wr.ownsRow w.heap.size 3 1 v m (ic (whos (L.take k) t)) ∧ m ≤ k
theorem whos_take {L : Wts} {t : Int} {k : Nat} (hk : k < L.length) : whos (L.take (k + 1)) t = if (L.getD k zz).b = t then whos (L.take k) t ++ [(L.getD k zz).a] else whos (L.take k) t := by
  unfold whos of
  rw [List.take_add_one, getD_some hk]
  simp only [Option.toList_some, List.filter_append, List.map_append]
  by_cases e : (L.getD k zz).b = t
  · rw [if_pos e, List.filter_cons_of_pos (by simpa using e)]; rfl
  · rw [if_neg e, List.filter_cons_of_neg (by simpa using e)]; simp
set_option maxHeartbeats 1000000 in
set_option maxRecDepth 100000 in
theorem rwho_calls (base rb : Nat) (th nw t : Int) (td ak : Nat → Int) (L : Wts) (lv : Value) (w : World) (h : RefAt w base rb th nw td ak L lv) (hI : PU.Inv L) (hl : L.length ≤ 1000) :
    Calls Tryd.prog 19 #[.pointer (some ⟨rb, 0, none⟩), .int .i64 t] w fun e w' => ∃ v, e = .returned v ∧ w'.ownsRow w.heap.size 3 1 v (of L t).length (ic (whoS L t)) ∧ Below w.heap.size w w' := by
  obtain ⟨i0, hii, hz0, hz1, hz2⟩ := info_parts info3
  obtain ⟨la, lc, rfl, hA, _⟩ := h.list hl
  have HR := hidden h
  have HA := hidden hA
  have HI := hidden hI
  have HS0 : Hid (OSt w w L t 0 0 (.slice none 0 0)) := ⟨Below.refl _ _, World.ownsRow_nil _ _ _ _, Nat.le_refl _⟩
  clear h hA hI
  go_enter Tryd.func19, Tryd.ntmps19
  go_wp2_with fail
  go_loopg [5, 6] L.length (fun g x y wr => ∃ (k m : Nat) (va : Option Addr) (vc : Nat), k + g = L.length ∧ x = .slice va m vc ∧ y = .int .i64 (k : Int) ∧ Hid (OSt w wr L t k m (.slice va m vc)))
  case atStart => exact ⟨0, 0, none, 0, by omega, rfl, rfl, HS0⟩
  case round =>
    obtain ⟨k, m, va, vc, hkg, rfl, rfl, HS⟩ := hrel
    clear HS0
    have c2 := (HR.out.below HS.out.1).cells.2.2
    have hmk : m ≤ 1000 := by have := HS.out.2.2; omega
    by_cases hk : k < L.length
    · have hkz : (k : Int) < (L.length : Int) := by omega
      obtain ⟨lb, lo, rfl, hlb, hls⟩ := (HA.out.below HS.out.1).at (by omega)
      obtain ⟨r0, r1, -⟩ := hls k hk
      clear hls
      have hH := whos_take (t := t) hk
      obtain ⟨y, hy⟩ : ∃ y, L.getD k zz = y := ⟨_, rfl⟩
      rw [hy] at r0 r1 hH
      clear hy
      obtain ⟨ya, yt, yc⟩ := y
      simp only at r0 r1 hH
      by_cases g1 : yt = t
      · subst g1
        rw [if_pos rfl] at hH
        have HH := hidden hH
        clear hH
        have hsz : w.heap.size ≤ wr.heap.size := HS.out.1.size
        go_wp2_with (at_builtin; refine wpList_append_own _ rfl _ _ 31 rfl w.heap.size 3 i0 _ 1 8 Tryd.underlying31 hii hz0 hz1 hz2 rfl (by decide) _ m (ic (whos (L.take k) yt)) rfl (HS.out.2.1.alloc _) ⟨wr.heap.size, 0, none⟩ 1 1 [.int .i64 ya] rfl rfl (World.news_of_block (cs := #[.int .i64 ya]) (t := 3) (fr := (0, 0)) (heap_alloc_new wr _)) ?c2 ?b1 ?b2 ?b3 ?next)
        case c2 => intro u hu'; simp at hu'; subst hu'; rfl
        case b1 => unfold maxLen; omega
        case b2 => omega
        case b3 => simp; omega
        case next =>
          intro v' w5 hown hgrow _
          obtain ⟨a5, c5, rfl⟩ := own_form hown
          have HS5 : Hid (OSt w w5 L yt (k + 1) (m + 1) (.slice a5 (m + 1) c5)) := by
            refine ⟨(below_alloc HS.out.1 _).grown hgrow (by simp; omega) (fun j hj => (HS.out.2.1.lt j hj).1), ?_, by have := HS.out.2.2; omega⟩
            rw [HH.out, ic_app]
            exact hown
          clear hown hgrow
          go_wp2_with fail
          go_roundg (L.length - (k + 1))
          case measure => omega
          case rel => exact ⟨k + 1, m + 1, a5, c5, by omega, rfl, by go_num, HS5⟩
      · have d1 : (yt == t) = false := by simpa using g1
        have HS5 : Hid (OSt w wr L t (k + 1) m (.slice va m vc)) := ⟨HS.out.1, by rw [hH, if_neg g1]; exact HS.out.2.1, by have := HS.out.2.2; omega⟩
        clear hH g1
        go_wp2_with fail
        go_roundg (L.length - (k + 1))
        case measure => omega
        case rel => exact ⟨k + 1, m, va, vc, by omega, rfl, by go_num, HS5⟩
    · have hkz : ¬ (k : Int) < (L.length : Int) := by omega
      obtain rfl : L.length = k := by omega
      have hrow := HS.out.2.1
      rw [List.take_length] at hrow
      obtain ⟨a', c', ev, hArg, -⟩ := own_ints hrow (by omega)
      simp only [Value.slice.injEq] at ev
      rw [← ev.1] at hArg
      have HC := hidden (PSort.sorted_calls va m vc (whos L t) wr hArg (by omega))
      have hnorm : BM.norm (whos L t) = whoS L t := BM.norm_nodup (whos_nodup HI.out.uq t)
      rw [hnorm, whoS_len] at HC
      have HB := hidden HS.out.1
      clear hrow ev hArg hnorm HS
      go_wp2_with fail
      refine HC.out.mono ?_
      rintro e w3 ⟨v3, rfl, hrow3, hb3⟩
      have HF : Hid (w3.ownsRow w.heap.size 3 1 v3 (of L t).length (ic (whoS L t)) ∧ Below w.heap.size w w3) := ⟨own_base hrow3 HB.out.size, HB.out.trans (hb3.mono HB.out.size)⟩
      clear hrow3 hb3 HC
      go_wp2_with fail
      go_ret
      exact ⟨v3, rfl, HF.out⟩
/-- under way within Changed: k tracks are looked at -/
structure CSt (w wr : World) (base rb : Nat) (th nw : Int) (td ak : Nat → Int) (L : Wts) (lv : Value) (k : Nat) (v : Value) (K : Wts) : Prop where
  ref : RefAt wr base rb th nw (tdN L td k) ak L lv
  row : wr.ownsRow w.heap.size 30 3 v K.length (mc K)
  only : Only (rblks rb lv) w wr
  lt : ∀ j ∈ rblks rb lv, j < w.heap.size
theorem CSt.same {w wr : World} {base rb : Nat} {th nw : Int} {td ak : Nat → Int} {L : Wts} {lv : Value} {k : Nat} {v : Value} {K : Wts} (h : CSt w wr base rb th nw td ak L lv k v K) (e : need L ((k : Int) + 1) = td k) : CSt w wr base rb th nw td ak L lv (k + 1) v K :=
  { h with ref := h.ref.ext (fun i hi => by
      unfold tdN
      by_cases q : i < k
      · rw [if_pos q, if_pos (by omega)]
      · rw [if_neg q]
        by_cases q2 : i = k
        · subst q2; rw [if_pos (by omega), e]
        · rw [if_neg (by omega)]) (fun i hi => rfl) }
theorem CSt.told {w wr : World} {base rb : Nat} {th nw : Int} {td ak : Nat → Int} {L : Wts} {lv : Value} {k : Nat} {v : Value} {K : Wts} (h : CSt w wr base rb th nw td ak L lv k v K) (hk : k < 8) : CSt w (wr.setCell ⟨rb, 3 + (k + 1), none⟩ (.int .i64 (need L ((k : Int) + 1) + 1))) base rb th nw td ak L lv (k + 1) v K := by
  have ho : Only [rb] wr (wr.setCell ⟨rb, 3 + (k + 1), none⟩ (.int .i64 (need L ((k : Int) + 1) + 1))) := (Only.refl _ _).setCell (by simp) _
  refine ⟨(h.ref.setT hk _).ext (fun i hi => ?_) (fun i hi => rfl), ho.owns h.row (fun j hj => ?_), h.only.trans (ho.mono (by intro j hj; simp at hj; exact mem_rblks.2 (.inl hj))), h.lt⟩
  · unfold tdN upd
    by_cases q2 : i = k
    · rw [if_pos q2, if_pos (by omega), q2]
    · rw [if_neg q2]
      show (if i < k then need L ((i : Int) + 1) else td i) = _
      by_cases q : i < k
      · rw [if_pos q, if_pos (by omega)]
      · rw [if_neg q, if_neg (by omega)]
  · have h1 := (h.row.lt j hj).1
    have h2 := h.lt rb (mem_rblks.2 (.inl rfl))
    simp
    omega
theorem CSt.more {w wr wy : World} {base rb : Nat} {th nw : Int} {td ak : Nat → Int} {L : Wts} {lv : Value} {k : Nat} {v v' : Value} {K : Wts} {O : Obj} (h : CSt w wr base rb th nw td ak L lv k v K) (x : Wt) (hown : wy.ownsRow w.heap.size 30 3 v' (K.length + 1) (mc K ++ mc [x])) (hg : (wr.alloc O).grownBy wy v.ownBlock) : CSt w wy base rb th nw td ak L lv k v' (K ++ [x]) := by
  have hv : ∀ j, v.ownBlock = some j → w.heap.size ≤ j := fun j hj => (h.row.lt j hj).1
  have ho : Only v.ownBlock.toList wr wy := ((Only.refl _ _).alloc _).grown hg (by intro j hj; simp [hj])
  refine ⟨h.ref.only ho ?_, ?_, past h.only ho ?_, h.lt⟩
  · intro j hj hc
    have h1 := h.lt j hj
    have h2 := hv j (by simpa using hc)
    omega
  · rw [mc_app]
    simpa using hown
  · intro j hj
    exact .inr (hv j (by simpa using hj))
set_option maxHeartbeats 1000000 in
set_option maxRecDepth 100000 in
theorem rchanged_calls (base rb : Nat) (th nw : Int) (td ak : Nat → Int) (L : Wts) (lv : Value) (w : World) (h : RefAt w base rb th nw td ak L lv) (hI : PU.Inv L) (hl : L.length ≤ 1000) (ht : ∀ i, -1 ≤ td i ∧ td i ≤ 3) :
    Calls Tryd.prog 16 #[.pointer (some ⟨rb, 0, none⟩)] w fun e w' => ∃ v, e = .returned v ∧ RefAt w' base rb th nw (fun i => need L ((i : Int) + 1)) ak L lv ∧ w'.ownsRow w.heap.size 30 3 v (chg L td 8).length (mc (chg L td 8)) ∧ Only (rblks rb lv) w w' := by
  obtain ⟨i0, hii, hz0, hz1, hz2⟩ := info_parts infoWT
  have HS0 : Hid (CSt w w base rb th nw td ak L lv 0 (.slice none 0 0) []) := ⟨h.ext (fun i hi => by simp [tdN]) (fun i hi => rfl), World.ownsRow_nil _ _ _ _, Only.refl _ _, h.lt⟩
  have HT := hidden ht
  have HI := hidden hI
  clear h ht hI
  go_enter Tryd.func16, Tryd.ntmps16
  go_wp2_with fail
  go_loopg [3, 4] 8 (fun g v' x wr => ∃ (k : Nat) (v : Value) (K : Wts), k + g = 8 ∧ v = v' ∧ x = .int .i64 ((k + 1 : Nat) : Int) ∧ Hid (K = chg L td k) ∧ Hid (CSt w wr base rb th nw td ak L lv k v K))
  case atStart => exact ⟨0, _, [], by omega, rfl, rfl, rfl, HS0⟩
  case round =>
    obtain ⟨k, v, K, hkg, rfl, rfl, HK, HS⟩ := hrel
    clear HS0
    obtain ⟨kt, hkt⟩ : ∃ kt, k + 1 = kt := ⟨_, rfl⟩
    by_cases hk : k < 8
    · have hkz : (kt : Int) ≤ 8 := by omega
      have hkz9 : (kt : Int) < 9 := by omega
      have HC := hidden (rneed_calls base rb th nw (kt : Int) _ _ L lv wr HS.out.ref hl)
      have ek : ((kt : Nat) : Int) = (k : Int) + 1 := by omega
      obtain ⟨r, hr⟩ : ∃ r, need L ((k : Int) + 1) = r := ⟨_, rfl⟩
      have hr2 : need L (kt : Int) = r := by rw [ek]; exact hr
      rw [hr2] at HC
      have hrb : -1 ≤ r ∧ r ≤ 3 := ⟨by rw [← hr]; exact (need_spec L _).1, by rw [← hr]; exact need_top HI.out _⟩
      have HR := hidden hr
      have htk := HT.out k
      have ct := (HS.out.ref.track hk).1
      have f1 := HS.out.ref.free (3 + (k + 1))
      have e0 : tdN L td k k = td k := by simp [tdN]
      rw [e0, hkt] at ct
      rw [hkt] at f1
      have HEk := hidden ek
      have HKt := hidden hkt
      clear e0 hr hr2 ek
      rw [hkt]
      clear hkt
      by_cases hq : r = td k
      · rw [← hq] at ct
        have HS2 := hidden (HS.out.same (by rw [HR.out, hq]))
        have HK2 : Hid (K = chg L td (k + 1)) := by rw [chg_same (by rw [HR.out, hq])]; exact HK
        clear hq htk
        go_wp2_with fail
        refine HC.out.mono ?_
        rintro e w1 ⟨rfl, rfl⟩
        go_wp2_with fail
        go_roundg (8 - (k + 1))
        case measure => omega
        case rel => exact ⟨k + 1, v, K, by omega, rfl, by rw [HKt.out]; go_num, HK2, HS2⟩
      · have d : (r + 1 != td k + 1) = true := bne_iff_ne.2 (by omega)
        have HK2 : Hid (K ++ [⟨0, (kt : Int), r⟩] = chg L td (k + 1)) := by rw [chg_more (by rw [HR.out]; exact hq), HR.out, ← HK.out, HEk.out]; exact rfl
        have hkl : K.length ≤ 8 := by rw [HK.out]; have := chg_len L td k; omega
        have HO3 : Hid ((wr.alloc (.cells #[.int .i64 0, .int .i64 (kt : Int), .int .i64 r] 30)).ownsRow w.heap.size 30 3 v K.length (mc K)) := HS.out.row.alloc _
        have HN := hidden (WBox.new wr ⟨0, (kt : Int), r⟩).news
        have hsz3 : w.heap.size ≤ wr.heap.size := HS.out.only.2.2.2.1
        clear hq
        obtain ⟨u, hu⟩ : ∃ u, td k + 1 = u := ⟨_, rfl⟩
        rw [hu] at ct d
        clear hu htk
        go_wp2_with fail
        refine HC.out.mono ?_
        rintro e w1 ⟨rfl, rfl⟩
        go_wp2_with (at_builtin; refine wpList_append_own _ rfl _ _ 22 rfl w.heap.size 30 i0 _ 3 24 Tryd.underlying22 hii hz0 hz1 hz2 rfl (by decide) _ K.length (mc K) rfl HO3.out ⟨w1.heap.size, 0, none⟩ 1 1 (mc [⟨0, (kt : Int), r⟩]) rfl rfl HN.out (mc_cell _) ?b1 ?b2 ?b3 ?next)
        case b1 => unfold maxLen; omega
        case b2 => omega
        case b3 => simp; omega
        case next =>
          intro v1 w5 hown hgrow _
          have hS5 := HS.out.more ⟨0, (kt : Int), r⟩ hown hgrow
          have HS6 : Hid (CSt w (w5.setCell ⟨rb, 3 + kt, none⟩ (.int .i64 (r + 1))) base rb th nw td ak L lv (k + 1) v1 (K ++ [⟨0, (kt : Int), r⟩])) := by
            have := hS5.told hk
            rw [HR.out, HKt.out] at this
            rw [HKt.out]
            exact this
          have c5 := (hS5.ref.track hk).1
          have f5 := hS5.ref.free (3 + (k + 1))
          rw [HKt.out] at c5 f5
          obtain ⟨u5, hu5⟩ : ∃ u5, tdN L td k k + 1 = u5 := ⟨_, rfl⟩
          rw [hu5] at c5
          clear hown hgrow hS5 hu5 HN HO3
          go_wp2_with fail
          go_roundg (8 - (k + 1))
          case measure => omega
          case rel => exact ⟨k + 1, v1, _, by omega, rfl, by rw [HKt.out]; go_num, HK2, HS6⟩
    · have hkz : ¬ (kt : Int) ≤ 8 := by omega
      have hk8 : 8 = k := by omega
      subst hk8
      rw [hkt]
      have hkz9 : ¬ (kt : Int) < 9 := by omega
      clear hkt
      go_wp2_with fail
      go_ret
      have hs := HS.out
      refine ⟨v, rfl, hs.ref.ext (fun i hi => by simp [tdN, hi]) (fun i hi => rfl), ?_, hs.only⟩
      have := hs.row
      rw [HK.out] at this
      exact this

set_option maxHeartbeats 1000000 in
theorem rask_range (p : Value) (t now : Int) (w : World) (h : (t < 1 ∨ 8 < t) ∨ now < 0 ∨ 1000000 < now) :
    Calls Tryd.prog 17 #[p, .int .i64 t, .int .i64 now] w fun e w' => e = .returned (.tuple #[.bool false, .int .i64 1]) ∧ w' = w := by
  have C1 := track_calls t w
  have C2 := time_calls now w
  obtain ⟨q1, hq1⟩ : ∃ q, (decide (1 ≤ t) && decide (t ≤ 8)) = q := ⟨_, rfl⟩
  obtain ⟨q2, hq2⟩ : ∃ q, (decide (0 ≤ now) && decide (now ≤ 1000000)) = q := ⟨_, rfl⟩
  rw [hq1] at C1
  rw [hq2] at C2
  have HC1 := hidden C1
  have HC2 := hidden C2
  clear C1 C2
  cases q1 with
  | false =>
    clear hq1 hq2 h
    go_enter Tryd.func17, Tryd.ntmps17
    go_wp2_with fail
    refine HC1.out.mono ?_
    rintro e w1 ⟨rfl, rfl⟩
    go_wp2_with fail
    refine HC2.out.mono ?_
    rintro e w1 ⟨rfl, rfl⟩
    go_wp2_with fail
    go_ret2
    exact ⟨rfl, rfl⟩
  | true =>
    have ht : 1 ≤ t ∧ t ≤ 8 := by simpa using hq1
    have hqf : q2 = false := by
      cases q2 with
      | false => rfl
      | true => have hn : 0 ≤ now ∧ now ≤ 1000000 := by simpa using hq2
                omega
    subst hqf
    clear hq1 hq2 h ht
    go_enter Tryd.func17, Tryd.ntmps17
    go_wp2_with fail
    refine HC1.out.mono ?_
    rintro e w1 ⟨rfl, rfl⟩
    go_wp2_with fail
    refine HC2.out.mono ?_
    rintro e w1 ⟨rfl, rfl⟩
    go_wp2_with fail
    go_ret2
    exact ⟨rfl, rfl⟩
/-- what Ask answers, and what it leaves -/
def RA (n : Int) (q : Bool) (base rb i : Nat) (th nw now : Int) (td ak : Nat → Int) (L : Wts) (lv : Value) (w : World) (e : Ending) (w' : World) : Prop :=
  ∃ (r : Bool) (f : Int), e = .returned (.tuple #[.bool r, .int .i64 f]) ∧ ((now < nw ∧ r = false ∧ f = 6 ∧ w' = w) ∨ (nw ≤ now ∧ n < 0 ∧ r = false ∧ f = 5 ∧ w' = w) ∨
    (nw ≤ now ∧ 0 ≤ n ∧ r = q ∧ f = 0 ∧ RefAt w' base rb th now td (if r = true then upd ak i now else ak) L lv ∧ Only (rblks rb lv) w w'))
set_option maxHeartbeats 2000000 in
set_option maxRecDepth 100000 in
theorem rask_in (base rb i : Nat) (th nw now : Int) (td ak : Nat → Int) (L : Wts) (lv : Value) (w : World) (h : RefAt w base rb th nw td ak L lv) (hA : AInv th nw ak) (hl : L.length ≤ 1000) (hi : i < 8) (h1 : 0 ≤ now) (h2 : now ≤ 1000000) :
    Calls Tryd.prog 17 #[.pointer (some ⟨rb, 0, none⟩), .int .i64 ((i + 1 : Nat) : Int), .int .i64 now] w fun e w' => RA (need L ((i : Int) + 1)) (thru th (ak i) now) base rb i th nw now td ak L lv w e w' := by
  obtain ⟨kt, hkt⟩ : ∃ kt, i + 1 = kt := ⟨_, rfl⟩
  have ek : ((kt : Nat) : Int) = (i : Int) + 1 := by omega
  have C1 := track_calls (kt : Int) w
  rw [decide_eq_true (show 1 ≤ (kt : Int) by omega), decide_eq_true (show (kt : Int) ≤ 8 by omega)] at C1
  have C2 := time_calls now w
  rw [decide_eq_true h1, decide_eq_true h2] at C2
  have HC1 := hidden C1
  have HC2 := hidden C2
  have C3 := rneed_calls base rb th nw (kt : Int) td ak L lv w h hl
  rw [ek] at C3
  obtain ⟨r, hr⟩ : ∃ r, need L ((i : Int) + 1) = r := ⟨_, rfl⟩
  rw [hr, ← ek] at C3
  have HC3 := hidden C3
  have hrb : -1 ≤ r := by rw [← hr]; exact (need_spec L _).1
  have c0 := h.cells.1
  have c1 := h.cells.2.1
  have f1 := h.free 1
  have hrbw := h.lt rb (mem_rblks.2 (.inl rfl))
  have hz9 : (kt : Int) < 9 := by omega
  have ha := hA.a1 i
  have hn2 := hA.n2
  have ht1 := hA.t1
  have ht2 := hA.t2
  rw [hkt, hr]
  have HKt := hidden hkt
  have HR := hidden h
  clear C1 C2 C3 h hr ek hkt hA
  by_cases hn : now < nw
  · have d1 : decide (now < nw) = true := decide_eq_true hn
    have HN := hidden hn
    clear hn
    go_enter Tryd.func17, Tryd.ntmps17
    go_wp2_with fail
    refine HC1.out.mono ?_
    rintro e w1 ⟨rfl, rfl⟩
    go_wp2_with fail
    refine HC2.out.mono ?_
    rintro e w1 ⟨rfl, rfl⟩
    go_wp2_with fail
    go_ret2
    exact ⟨_, _, rfl, .inl ⟨HN.out, rfl, rfl, rfl⟩⟩
  have d1 : decide (now < nw) = false := decide_eq_false hn
  have HN : Hid (nw ≤ now) := by unfold Hid; omega
  by_cases hr0 : r < 0
  · have d2 : decide (r < 0) = true := decide_eq_true hr0
    have HR0 := hidden hr0
    clear hn hr0
    go_enter Tryd.func17, Tryd.ntmps17
    go_wp2_with fail
    refine HC1.out.mono ?_
    rintro e w1 ⟨rfl, rfl⟩
    go_wp2_with fail
    refine HC2.out.mono ?_
    rintro e w1 ⟨rfl, rfl⟩
    go_wp2_with fail
    refine HC3.out.mono ?_
    rintro e w1 ⟨rfl, rfl⟩
    go_wp2_with fail
    go_ret2
    exact ⟨_, _, rfl, .inr (.inl ⟨HN.out, HR0.out, rfl, rfl, rfl⟩)⟩
  have d2 : decide (r < 0) = false := decide_eq_false hr0
  have HR0 : Hid (0 ≤ r) := by unfold Hid; omega
  have HR3 := hidden (HR.out.setN now)
  have HO3 : Hid (Only (rblks rb lv) w (w.setCell ⟨rb, 1, none⟩ (.int .i64 now))) := (Only.refl _ _).setCell (mem_rblks.2 (.inl rfl)) _
  obtain ⟨q, hq⟩ : ∃ q, thru th (ak i) now = q := ⟨_, rfl⟩
  rw [hq]
  obtain ⟨u, hu⟩ : ∃ u, ak i + 1 = u := ⟨_, rfl⟩
  have hub : 0 ≤ u ∧ u ≤ 1000001 := by omega
  have HQ : Hid (0 < u → decide (now - u + 1 < th) = !q) := by
    refine hidden fun hu0 => ?_
    rw [← hq]
    unfold thru
    rw [decide_eq_false (show ¬ ak i < 0 by omega), Bool.false_or, ← decide_not]
    congr 1
    rw [eq_iff_iff]; omega
  have HQ0 : Hid (u ≤ 0 → q = true) := by
    refine hidden fun hu0 => ?_
    rw [← hq]
    unfold thru
    rw [decide_eq_true (show ak i < 0 by omega), Bool.true_or]
  have HU := hidden hu
  clear hn hr0 hq
  go_enter Tryd.func17, Tryd.ntmps17
  go_wp2_with fail
  refine HC1.out.mono ?_
  rintro e w1 ⟨rfl, rfl⟩
  go_wp2_with fail
  refine HC2.out.mono ?_
  rintro e w1 ⟨rfl, rfl⟩
  go_wp2_with fail
  refine HC3.out.mono ?_
  rintro e w1 ⟨rfl, rfl⟩
  go_wp2_with fail
  obtain ⟨w5, hw5⟩ : ∃ w5, w1.setCell ⟨rb, 1, none⟩ (.int .i64 now) = w5 := ⟨_, rfl⟩
  rw [hw5] at HR3 HO3 ⊢
  clear hw5 c0 c1 f1 HC1 HC2 HC3 HR d1 d2 hu
  have r0 := HR3.out.cells.1
  have r2 := (HR3.out.track hi).2
  have f2 := HR3.out.free (12 + (i + 1))
  rw [HU.out, HKt.out] at r2
  rw [HKt.out] at f2
  have HFin : Hid (∀ nq, RefAt ((w5.drewN nq).setCell ⟨rb, 12 + kt, none⟩ (.int .i64 (now + 1))) base rb th now td (upd ak i now) L lv) := by
    refine hidden fun nq => ?_
    have := (HR3.out.below (below_drewN (Below.refl _ _) nq)).setA hi now
    rw [HKt.out] at this
    exact this
  by_cases hu0 : 0 < u
  · have d3 : decide (0 < u) = true := decide_eq_true hu0
    have d4 := HQ.out hu0
    cases q with
    | false =>
      simp only [Bool.not_false] at d4
      clear hu0
      go_quiet (fail)
      go_wp2_with fail
      go_ret2
      refine ⟨_, _, rfl, .inr (.inr ⟨HN.out, HR0.out, rfl, rfl, ?_, HO3.out.drewN _⟩)⟩
      exact HR3.out.below (below_drewN (Below.refl _ _) _)
    | true =>
      simp only [Bool.not_true] at d4
      clear hu0
      go_quiet (fail)
      go_wp2_with fail
      go_ret2
      exact ⟨_, _, rfl, .inr (.inr ⟨HN.out, HR0.out, rfl, rfl, HFin.out _, (HO3.out.drewN _).setCell (mem_rblks.2 (.inl rfl)) _⟩)⟩
  · have d3 : decide (0 < u) = false := decide_eq_false hu0
    have hqt := HQ0.out (by omega)
    subst hqt
    clear hu0
    go_quiet (fail)
    go_wp2_with fail
    go_ret2
    exact ⟨_, _, rfl, .inr (.inr ⟨HN.out, HR0.out, rfl, rfl, HFin.out _, (HO3.out.drewN _).setCell (mem_rblks.2 (.inl rfl)) _⟩)⟩
theorem rask_calls (base rb : Nat) (th nw t now : Int) (td ak : Nat → Int) (L : Wts) (lv : Value) (w : World) (h : RefAt w base rb th nw td ak L lv) (hA : AInv th nw ak) (hl : L.length ≤ 1000) :
    Calls Tryd.prog 17 #[.pointer (some ⟨rb, 0, none⟩), .int .i64 t, .int .i64 now] w fun e w' => e = .returned (.tuple #[.bool (aB L th nw ak t now), .int .i64 (af L nw t now : Int)]) ∧ RefAt w' base rb th (aN L nw t now) td (aK L th nw ak t now) L lv ∧ Only (rblks rb lv) w w' := by
  have same : af L nw t now ≠ 0 → aB L th nw ak t now = false ∧ aN L nw t now = nw ∧ aK L th nw ak t now = ak := by
    intro h0
    have h1 : aB L th nw ak t now = false := by unfold aB; rw [decide_eq_false h0, Bool.false_and]
    refine ⟨h1, by unfold aN; rw [if_neg h0], by unfold aK; rw [h1, if_neg (by simp)]⟩
  by_cases h1 : (t < 1 ∨ 8 < t) ∨ now < 0 ∨ 1000000 < now
  · have e : af L nw t now = 1 := by
      unfold af tf
      by_cases q : t < 1 ∨ 8 < t
      · rw [if_pos q]
      · rw [if_neg q]
        have q2 : now < 0 ∨ 1000000 < now := by omega
        rw [if_pos q2, if_pos (by omega)]
    obtain ⟨q1, q2, q3⟩ := same (by omega)
    rw [q1, q2, q3, e]
    refine (rask_range _ t now w h1).mono ?_
    rintro e w' ⟨rfl, rfl⟩
    exact ⟨rfl, h, Only.refl _ _⟩
  obtain ⟨i, rfl⟩ : ∃ i : Nat, t = ((i + 1 : Nat) : Int) := ⟨(t - 1).toNat, by omega⟩
  have hi : i < 8 := by omega
  have hx : ix ((i + 1 : Nat) : Int) = i := by unfold ix; omega
  have et : ((i + 1 : Nat) : Int) = (i : Int) + 1 := by omega
  refine (rask_in base rb i th nw now td ak L lv w h hA hl hi (by omega) (by omega)).mono ?_
  rintro e w' ⟨r, f, rfl, hh⟩
  rcases hh with ⟨g1, g2, g3, g4⟩ | ⟨g0, g1, g2, g3, g4⟩ | ⟨g0, g1, g2, g3, g4, g5⟩
  · have ht : tf nw now = 6 := by unfold tf; rw [if_neg (by omega), if_pos g1]
    have e : af L nw ((i + 1 : Nat) : Int) now = 6 := by unfold af; rw [if_neg (by omega), if_pos (by omega), ht]
    obtain ⟨q1, q2, q3⟩ := same (by omega)
    rw [q1, q2, q3, e, g2, g3, g4]
    exact ⟨rfl, h, Only.refl _ _⟩
  · have ht : tf nw now = 0 := by unfold tf; rw [if_neg (by omega), if_neg (by omega)]
    have e : af L nw ((i + 1 : Nat) : Int) now = 5 := by unfold af; rw [if_neg (by omega), if_neg (by simp [ht]), if_pos (by rw [et]; exact g1)]
    obtain ⟨q1, q2, q3⟩ := same (by omega)
    rw [q1, q2, q3, e, g2, g3, g4]
    exact ⟨rfl, h, Only.refl _ _⟩
  · have ht : tf nw now = 0 := by unfold tf; rw [if_neg (by omega), if_neg (by omega)]
    have e : af L nw ((i + 1 : Nat) : Int) now = 0 := by unfold af; rw [if_neg (by omega), if_neg (by simp [ht]), if_neg (by rw [et]; omega)]
    have e1 : aB L th nw ak ((i + 1 : Nat) : Int) now = r := by unfold aB; rw [decide_eq_true e, Bool.true_and, hx, g2]
    have e2 : aN L nw ((i + 1 : Nat) : Int) now = now := by unfold aN; rw [if_pos e]
    have e3 : aK L th nw ak ((i + 1 : Nat) : Int) now = if r = true then upd ak i now else ak := by unfold aK; rw [e1, hx]
    rw [e1, e2, e3, e, g3]
    exact ⟨rfl, g4, g5⟩

set_option maxHeartbeats 1000000 in
set_option maxRecDepth 100000 in
theorem ints_same (a b : Option Addr) (n cap cap' : Nat) (L : List Int) (w : World) (hA : IArg w a n L) (hB : IArg w b n L) :
    Calls Tryd.prog 18 #[.slice a n cap, .slice b n cap'] w fun e w' => e = .returned (.bool true) ∧ Below w.heap.size w w' := by
  have hn := hA.2.2
  have HA := hidden hA
  have HB := hidden hB
  clear hA hB
  go_enter Tryd.func18, Tryd.ntmps18
  go_wp2_with fail
  go_loopg [5] n (fun g y wr => ∃ (i : Nat), i + g = n ∧ y = .int .i64 (i : Int) ∧ Hid (Below w.heap.size w wr))
  case atStart => exact ⟨0, by omega, rfl, Below.refl _ _⟩
  case round =>
    obtain ⟨i, hig, rfl, HW⟩ := hrel
    by_cases hi : i < n
    · have hiz : (i : Int) < (n : Int) := by omega
      obtain ⟨b1, o1, rfl, h1⟩ := (HA.out.below HW.out).at (by omega)
      obtain ⟨b2, o2, rfl, h2⟩ := (HB.out.below HW.out).at (by omega)
      have c1 := h1 i hi
      have c2 := h2 i hi
      clear h1 h2
      generalize L.getD i 0 = x at *
      go_wp2_with fail
      go_quiet (fail)
      go_wp2_with fail
      go_roundg (n - (i + 1))
      case measure => omega
      case rel => exact ⟨i + 1, by omega, by go_num, hidden (below_drewN HW.out _)⟩
    · have hiz : ¬ (i : Int) < (n : Int) := by omega
      go_wp2_with fail
      go_ret
      exact ⟨rfl, HW.out⟩
theorem undWT : Tryd.prog.underlying 30 = some (.struct (Tryd.prog.fieldsOf 30)) := by kernel_rfl
theorem heldWT : Tryd.prog.stoodInHeld 30 = false := by kernel_rfl
theorem grdWT : Tryd.prog.eqGuardType Tryd.prog.depth 30 = false := by kernel_rfl
theorem wgrd (o1 o2 : Operand) (xs ys : Array Value) (w : World) : (eqGuard .neq 30 o1 o2 (.agg xs) (.agg ys)).run Tryd.prog w = .ok () w := run_eqGuard_agg w .neq 30 o1 o2 xs ys grdWT
theorem wcmp (x y z : Int) (w : World) : (binOp .neq 30 (.agg #[.int .i64 x, .int .i64 y, .int .i64 z]) (.agg #[.int .i64 x, .int .i64 y, .int .i64 z])).run Tryd.prog w = .ok (.bool false) w := by
  rw [run_neq_struct, run_equalIn_agg w 9999 30 _ _ undWT heldWT]
  simp [go_sem]
set_option maxHeartbeats 1000000 in
set_option maxRecDepth 100000 in
theorem wts_same (a b : Option Addr) (n cap cap' : Nat) (L : Wts) (w : World) (hA : WArg w a n L) (hB : WArg w b n L) :
    Calls Tryd.prog 15 #[.slice a n cap, .slice b n cap'] w fun e w' => e = .returned (.bool true) ∧ Below w.heap.size w w' := by
  have hn := hA.2.2
  have HA := hidden hA
  have HB := hidden hB
  clear hA hB
  go_enter Tryd.func15, Tryd.ntmps15
  go_wp2_with fail
  go_loopg [5] n (fun g y wr => ∃ (i : Nat), i + g = n ∧ y = .int .i64 (i : Int) ∧ Hid (Below w.heap.size w wr))
  case atStart => exact ⟨0, by omega, rfl, Below.refl _ _⟩
  case round =>
    obtain ⟨i, hig, rfl, HW⟩ := hrel
    by_cases hi : i < n
    · have hiz : (i : Int) < (n : Int) := by omega
      obtain ⟨b1, o1, rfl, _, h1⟩ := (HA.out.below HW.out).at (by omega)
      obtain ⟨b2, o2, rfl, _, h2⟩ := (HB.out.below HW.out).at (by omega)
      obtain ⟨c1, e1, f1⟩ := h1 i hi
      obtain ⟨c2, e2, f2⟩ := h2 i hi
      clear h1 h2
      generalize (L.getD i zz).a = x at *
      generalize (L.getD i zz).b = y at *
      generalize (L.getD i zz).c = z at *
      have hcmp := wcmp x y z
      have hgrd := wgrd
      go_wp2_with fail
      go_quiet (fail)
      go_wp2_with fail
      go_roundg (n - (i + 1))
      case measure => omega
      case rel => exact ⟨i + 1, by omega, by go_num, hidden (below_drewN HW.out _)⟩
    · have hiz : ¬ (i : Int) < (n : Int) := by omega
      go_wp2_with fail
      go_ret
      exact ⟨rfl, HW.out⟩
end Go.Proofs.YtdnfliknljfkcagDoor.RPull
