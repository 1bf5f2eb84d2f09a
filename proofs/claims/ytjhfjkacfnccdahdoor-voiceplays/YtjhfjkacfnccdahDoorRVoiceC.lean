/-
  What the reference's Top returns: all scores, the greatest first; what the functions Ints and Voices of package choirsame return of rows that are the same. They change nothing that was there.
-/
import Derived.Test.YtjhfjkacfnccdahDoorRVoiceB
import Derived.Test.YtjhfjkacfnccdahDoorVoiceD
namespace Go.Proofs.YtjhfjkacfnccdahDoor.RVoice
open Go.ChangeShapes Go.WideShapes Go.ChangeAt Go.RowKit Go.Maps Go.Proofs.YtjhfjkacfnccdahDoor.Mem Go.Proofs.YtjhfjkacfnccdahDoor.VO Go.Proofs.YtjhfjkacfnccdahDoor.Voice
set_option linter.unusedVariables false

/-- the first i, ranked -/
structure Rk (f : Sc) (i : Nat) (R : Vs) : Prop where
  perm : R.Perm ((lst f).take i)
  srt : R.Pairwise fun x y => lt y x = false
theorem Rk.zero (f : Sc) : Rk f 0 [] := ⟨by simp, by simp⟩
theorem Rk.len {f : Sc} {i : Nat} {R : Vs} (h : Rk f i R) (hi : i ≤ (lst f).length) : R.length = i := by rw [h.perm.length_eq, List.length_take]; omega
theorem Rk.done {f : Sc} {R : Vs} {i : Nat} (h : Rk f i R) (hi : i = (lst f).length) : R = rk f := by
  have hp := h.perm
  rw [hi, List.take_length] at hp
  exact rk_one hp h.srt
/-- put where it belongs -/
theorem Rk.put {f : Sc} {i k : Nat} {R : Vs} (h : Rk f i R) (hi : i < (lst f).length) (hk : k ≤ R.length) (hhi : ∀ j, k ≤ j → j < R.length → (R.getD j (0, 0)).2 < ((lst f).getD i (0, 0)).2) (hlo : 0 < k → ¬ (R.getD (k - 1) (0, 0)).2 < ((lst f).getD i (0, 0)).2) :
    Rk f (i + 1) (R.take k ++ [(lst f).getD i (0, 0)] ++ R.drop k) := by
  have hg : ∀ {l : Vs} {j : Nat} (hj : j < l.length), l.getD j (0, 0) = l[j] := fun hj => by rw [List.getD_eq_getElem?_getD, List.getElem?_eq_getElem hj, Option.getD_some]
  constructor
  · rw [take_succ' hi]
    have h1 : (R.take k ++ [(lst f).getD i (0, 0)] ++ R.drop k).Perm ((R.take k ++ R.drop k) ++ [(lst f).getD i (0, 0)]) := by
      rw [List.append_assoc, List.append_assoc]
      exact List.Perm.append_left _ List.perm_append_comm
    rw [List.take_append_drop] at h1
    exact h1.trans (h.perm.append_right _)
  · have ht : (R.take k).Pairwise fun x y => lt y x = false := h.srt.sublist (List.take_sublist _ _)
    have hd : (R.drop k).Pairwise fun x y => lt y x = false := h.srt.sublist (List.drop_sublist _ _)
    have hcross : ∀ a ∈ R.take k, ∀ b ∈ R.drop k, lt b a = false := by
      have := h.srt
      rw [← List.take_append_drop k R, List.pairwise_append] at this
      exact this.2.2
    rw [List.append_assoc, List.pairwise_append, List.pairwise_append]
    refine ⟨ht, ⟨by simp, hd, fun a ha b hb => ?_⟩, fun a ha b hb => ?_⟩
    · rw [List.mem_singleton.1 ha]
      obtain ⟨j, hj, rfl⟩ := List.getElem_of_mem hb
      rw [List.length_drop] at hj
      have := hhi (k + j) (by omega) (by omega)
      rw [hg (by omega)] at this
      rw [List.getElem_drop]
      exact (lt_false _ _).2 (by omega)
    · rcases List.mem_append.1 hb with hb | hb
      · rw [List.mem_singleton.1 hb]
        obtain ⟨j, hj, rfl⟩ := List.getElem_of_mem ha
        rw [List.length_take] at hj
        have h1 := hlo (by omega)
        rw [hg (show k - 1 < R.length by omega)] at h1
        rw [List.getElem_take]
        have hm : R[j] ∈ (lst f).take i := h.perm.mem_iff.1 (List.getElem_mem _)
        have h2 := rises_before (lst_rises f) hi hm
        have h3 : j = k - 1 ∨ lt R[k - 1] R[j] = false := by
          by_cases e : j = k - 1
          · exact .inl e
          · exact .inr (List.pairwise_iff_getElem.1 h.srt j (k - 1) (by omega) (by omega) (by omega))
        rcases h3 with rfl | h3
        · exact (lt_false _ _).2 (by omega)
        · have h3 := (lt_false _ _).1 h3
          exact (lt_false _ _).2 (by omega)
      · exact hcross a ha b hb
/-- under way within Top: the row so far -/
structure TSt (w wr : World) (u : Value) (R : Vs) : Prop where
  bel : Below w.heap.size w wr
  own : wr.ownsRow w.heap.size 38 2 u R.length (vc R)
theorem TSt.below {w wr w' : World} {u : Value} {R : Vs} (h : TSt w wr u R) (hb : Below wr.heap.size wr w') : TSt w w' u R :=
  ⟨h.bel.trans (hb.mono h.bel.size), own_below h.own hb⟩

set_option maxHeartbeats 4000000 in
set_option maxRecDepth 100000 in
theorem rtop_in (rb : Nat) (va : Option Addr) (nl vcap : Nat) (many sp : Int) (f : Sc) (w : World) (hV : RAt w rb (.slice va nl vcap) many sp f) (hk : Ok f) :
    Calls Tryd.prog 8 #[.pointer (some ⟨rb, 0, none⟩)] w fun e w' => ∃ a cap, e = .returned (.slice a (rk f).length cap) ∧ VArg w' a (rk f).length (rk f) ∧ (rk f).length ≤ cap ∧ Below w.heap.size w w' := by
  obtain ⟨i0, hii, hz0, hz1, hz2⟩ := info_parts infoVO
  have HV := hidden hV
  have HNL := hidden (argS hV).1
  have hnl3 : nl ≤ 201 := by rw [(argS hV).1]; exact lst_len f
  have hrl : Hid ((rk f).length = nl) := by unfold Hid; rw [rk_len]; exact (argS hV).1.symm
  rw [hrl.out]
  have HS0 : Hid (TSt w w (.slice none 0 0) []) := ⟨Below.refl _ _, by simpa [vc] using World.ownsRow_nil _ _ _ _⟩
  clear hV hk
  go_enter Tryd.func8, Tryd.ntmps8
  go_wp2_with fail
  go_loopg [3, 4] nl (fun g x y wr => ∃ (i : Nat) (u : Value) (R : Vs), i + g = nl ∧ u = x ∧ y = .int .i64 (i : Int) ∧ Hid (TSt w wr u R ∧ Rk f i R))
  case atStart => exact ⟨0, _, [], by omega, rfl, rfl, HS0.out, Rk.zero f⟩
  case round =>
    obtain ⟨i, u, R, hig, rfl, rfl, HS⟩ := hrel
    clear HS0
    have c2 := (HV.out.below HS.out.1.bel).cells.2.2
    by_cases hi : i < nl
    · have hiz : (i : Int) < (nl : Int) := by omega
      have hil : i < (lst f).length := by rw [← HNL.out]; exact hi
      have HIL := hidden hil
      have HRl := hidden (HS.out.2.len (by omega))
      obtain ⟨ua, ucap, rfl, hUA, hun, hucap, _⟩ := own_vs HS.out.1.own (by rw [HRl.out]; omega)
      rw [HRl.out] at hUA hucap hun ⊢
      have HUA := hidden hUA
      have HUN := hidden hun
      have HT := hidden HS.out.1
      have HK := hidden HS.out.2
      obtain ⟨x, y, hp⟩ : ∃ x y, (lst f).getD i (0, 0) = (x, y) := ⟨_, _, rfl⟩
      have HPd := hidden hp
      clear hp hil hUA HS hun
      obtain ⟨wo, rfl⟩ : ∃ x, x = wr := ⟨_, rfl⟩
      go_wp2_with fail
      go_loopg [5] i (fun g z wr => ∃ (k : Nat), k = g ∧ k ≤ i ∧ z = .int .i64 (k : Int) ∧ Hid (Below wo.heap.size wo wr ∧ ∀ j, k ≤ j → j < i → (R.getD j (0, 0)).2 < y))
      case atStart => exact ⟨i, rfl, by omega, rfl, Below.refl _ _, fun j h1 h2 => by omega⟩
      case round =>
        obtain ⟨k, rfl, hki, rfl, HW⟩ := hrel
        clear c2
        obtain ⟨cc, hcc⟩ : ∃ cc : Bool, (cc = true ∧ 0 < k ∧ (R.getD (k - 1) (0, 0)).2 < y) ∨ (cc = false ∧ (0 < k → ¬ (R.getD (k - 1) (0, 0)).2 < y)) := by
          by_cases q : 0 < k ∧ (R.getD (k - 1) (0, 0)).2 < y
          · exact ⟨true, .inl ⟨rfl, q⟩⟩
          · exact ⟨false, .inr ⟨rfl, fun q1 q2 => q ⟨q1, q2⟩⟩⟩
        have HCC := hidden hcc
        clear hcc
        go_upto_region 6 with fail
        go_cut [36] from 18 to 36 (fun c wx => c = .bool cc ∧ Hid (Below wo.heap.size wo wx))
        case first =>
          by_cases hk0 : k = 0
          · subst hk0
            have d2 : decide ((0 : Int) < 0) = false := by simp
            have HF : Hid (cc = false) := by
              rcases HCC.out with ⟨_, q, _⟩ | ⟨e, _⟩
              · omega
              · exact e
            go_wp2_with fail
            go_quiet (fail)
            go_wp2_with fail
            go_meet
            exact ⟨by rw [HF.out], below_drewN HW.out.1 _⟩
          · obtain ⟨j, rfl⟩ : ∃ j, k = j + 1 := ⟨k - 1, by omega⟩
            have hR := (HV.out.below HT.out.bel).below HW.out.1
            have c2 := hR.cells.2.2
            have hVA := (argS hR).2
            obtain ⟨vb, vo, rfl, hvl, hcs⟩ := hVA.at (by omega)
            obtain ⟨k0, k1⟩ := hcs i hi
            rw [HPd.out] at k0 k1
            obtain ⟨ub, uo, rfl, hul, hcu⟩ := (HUA.out.below HW.out.1).at (by omega)
            obtain ⟨j0, j1⟩ := hcu j (by omega)
            obtain ⟨px, py, hp2⟩ : ∃ x y, R.getD j (0, 0) = (x, y) := ⟨_, _, rfl⟩
            rw [hp2] at j0 j1
            simp only at k0 k1 j0 j1
            have HB2 : Hid (decide (py < y) = cc) := by
              rcases HCC.out with ⟨e, _, q⟩ | ⟨e, q⟩
              · rw [Nat.add_sub_cancel, hp2] at q
                rw [e]; exact decide_eq_true q
              · have q := q (by omega)
                rw [Nat.add_sub_cancel, hp2] at q
                rw [e]; exact decide_eq_false q
            have hjz : (j : Int) < (i : Int) := by omega
            clear hR hVA hcs hcu hp2 hk0
            go_wp2_with fail
            go_quiet (fail)
            go_wp2_with fail
            go_meet
            exact ⟨by rw [HB2.out], below_drewN HW.out.1 _⟩
        case rest =>
        obtain ⟨rfl, HW2⟩ := hcut
        have HLow := hidden HW.out.2
        obtain ⟨wB, rfl⟩ : ∃ x, x = wc := ⟨_, rfl⟩
        clear HW
        cases cc with
        | true =>
          have HQ : Hid (0 < k ∧ (R.getD (k - 1) (0, 0)).2 < y) := by
            rcases HCC.out with ⟨_, q⟩ | ⟨e, _⟩
            · exact q
            · cases e
          obtain ⟨j, rfl⟩ : ∃ j, k = j + 1 := ⟨k - 1, by have := HQ.out.1; omega⟩
          go_wp2_with fail
          go_roundg j
          case measure => omega
          case rel =>
            refine ⟨j, rfl, by omega, by go_num, HW2.out, fun m h1 h2 => ?_⟩
            by_cases e : m = j
            · rw [e]; exact HQ.out.2
            · exact HLow.out m (by omega) h2
        | false =>
          have HQ : Hid (0 < k → ¬ (R.getD (k - 1) (0, 0)).2 < y) := by
            rcases HCC.out with ⟨e, _⟩ | ⟨_, q⟩
            · cases e
            · exact q
          have HPut := hidden (HK.out.put HIL.out (k := k) (by rw [HRl.out]; exact hki) (by rw [HPd.out, HRl.out]; exact HLow.out) (by rw [HPd.out]; exact HQ.out))
          rw [HPd.out] at HPut
          have HUB := hidden (HUA.out.below HW2.out)
          have hcut1 := fun W => cutV_h ua i ucap k (by omega) W
          have HBB : Hid (Below w.heap.size w wB) := HT.out.bel.trans (HW2.out.mono HT.out.bel.size)
          have HN1 : Hid (ua = none → k = 0 ∧ ucap = 0) := fun e => by have := HUN.out e; omega
          clear HCC HLow HQ HK
          go_wp2_with (at_builtin; refine append_any rfl _ _ 30 rfl wB.heap.size 38 i0 _ 2 16 Tryd.underlying30 hii hz0 hz1 hz2 rfl (by decide) _ 0 [] rfl (World.ownsRow_nil _ _ _ _) ua k ucap (vc (R.take k)) rfl ?al HN1.out ?ac (vc_cell _) ?b1 ?b2 ?b3 ?next)
          case al => rw [vc_len, List.length_take, HRl.out, Nat.min_eq_left hki]
          case ac => exact vs_cells (HUB.out.take hki)
          case b1 => unfold maxLen; omega
          case b2 => omega
          case b3 => exact Nat.le_refl _
          case next =>
            intro v1 w1 hown hgrow
            have hb1 : Below wB.heap.size wB w1 := (Below.refl _ _).grown hgrow (Nat.le_refl _) (by simp [Value.ownBlock])
            have HO1 : Hid (w1.ownsRow wB.heap.size 38 2 v1 k (vc (R.take k))) := hidden (by simpa using hown)
            have hR := (HV.out.below HBB.out).below hb1
            have c2 := hR.cells.2.2
            have hVA := (argS hR).2
            obtain ⟨vb, vo, rfl, hvl, hcs⟩ := hVA.at (by omega)
            obtain ⟨k0, k1⟩ := hcs i hi
            rw [HPd.out] at k0 k1
            simp only at k0 k1
            have HO2 := hidden (HO1.out.alloc (.cells #[.int .i64 x, .int .i64 y] 38))
            have HN := hidden (VBox.new w1 (x, y)).news
            have HB1 := hidden hb1
            have hs1 := hb1.size
            clear hown hgrow hR hVA hcs hb1
            go_wp2_with (at_builtin; refine wpList_append_own _ rfl _ _ 30 rfl wB.heap.size 38 i0 _ 2 16 Tryd.underlying30 hii hz0 hz1 hz2 rfl (by decide) _ k (vc (R.take k)) rfl HO2.out ⟨w1.heap.size, 0, none⟩ 1 1 (vc [(x, y)]) rfl rfl ?news (vc_cell _) ?b1 ?b2 ?b3 ?next)
            case news => first | exact HN.out | (intro j u h; exact h)
            case b1 => unfold maxLen; omega
            case b2 => omega
            case b3 => first | omega | (simp; omega)
            case next =>
              intro v2 w2 hown hgrow _
              have hb2 : Below wB.heap.size wB w2 := (HB1.out.alloc HB1.out.size _).grown hgrow (HB1.out.alloc HB1.out.size _).size (fun m hm => (HO1.out.lt m hm).1)
              have HO3 : Hid (w2.ownsRow wB.heap.size 38 2 v2 (k + 1) (vc (R.take k ++ [(x, y)]))) := by rw [Hid, vc_app]; exact hown
              have HB2 := hidden hb2
              have HUC := hidden ((HUB.out.below hb2).drop hucap hki)
              have hcut2 := fun W => cutV_l ua i ucap k hki W
              have HN2 : Hid (cutV ua ucap k = none → i - k = 0 ∧ ucap - k = 0) := fun e => by
                have e2 : ua = none := by
                  unfold cutV at e
                  split at e
                  · exact e
                  · simpa using e
                have := HUN.out e2
                omega
              have hs2 := hb2.size
              generalize cutV ua ucap k = ca at *
              clear hown hgrow hb2 hcut1 c2 k0 k1 hvl
              go_wp2_with (at_builtin; refine append_any rfl _ _ 30 rfl wB.heap.size 38 i0 _ 2 16 Tryd.underlying30 hii hz0 hz1 hz2 rfl (by decide) _ (k + 1) (vc (R.take k ++ [(x, y)])) rfl HO3.out ca (i - k) (ucap - k) (vc (R.drop k)) rfl ?al HN2.out ?ac (vc_cell _) ?b1 ?b2 ?b3 ?next)
              case al => rw [vc_len, List.length_drop, HRl.out]
              case ac => exact vs_cells HUC.out
              case b1 => unfold maxLen; omega
              case b2 => omega
              case b3 => first | omega | (simp; omega)
              case next =>
                intro v3 w3 hown hgrow
                have HS3 : Hid (TSt w w3 v3 (R.take k ++ [(x, y)] ++ R.drop k)) := by
                  refine ⟨HBB.out.trans ((HB2.out.grown hgrow HB2.out.size (fun m hm => (HO3.out.lt m hm).1)).mono HBB.out.size), own_base ?_ HBB.out.size⟩
                  have e : (R.take k ++ [(x, y)] ++ R.drop k).length = k + 1 + (i - k) := by
                    rw [List.length_append, List.length_append, List.length_take, List.length_drop, HRl.out, Nat.min_eq_left hki]; rfl
                  rw [e, vc_app]
                  exact hown
                clear hown hgrow
                go_wp2_with fail
                go_roundg (nl - (i + 1))
                case measure => omega
                case rel => exact ⟨i + 1, v3, _, by omega, rfl, by go_num, HS3.out, HPut.out⟩
    · have hiz : ¬ (i : Int) < (nl : Int) := by omega
      obtain rfl : nl = i := by omega
      have he : R = rk f := HS.out.2.done HNL.out
      subst he
      obtain ⟨ua, ucap, rfl, hUA, hun, hucap, _⟩ := own_vs HS.out.1.own (by rw [hrl.out]; omega)
      rw [hrl.out] at hUA hucap ⊢
      have HUA := hidden hUA
      have HB := hidden HS.out.1.bel
      have HC := hidden hucap
      clear hUA HS hucap hun
      go_wp2_with fail
      go_ret
      exact ⟨ua, ucap, rfl, HUA.out, HC.out, HB.out⟩
theorem rtop_calls (rb : Nat) (v : Value) (many sp : Int) (f : Sc) (w : World) (hV : RAt w rb v many sp f) (hk : Ok f) :
    Calls Tryd.prog 8 #[.pointer (some ⟨rb, 0, none⟩)] w fun e w' => ∃ a cap, e = .returned (.slice a (rk f).length cap) ∧ VArg w' a (rk f).length (rk f) ∧ (rk f).length ≤ cap ∧ Below w.heap.size w w' := by
  obtain ⟨va, vcap, rfl, _⟩ := hV.arg
  exact rtop_in rb va _ vcap many sp f w hV hk
theorem ints_same (a b : Option Addr) (n cap cap' : Nat) (L : List Int) (w : World) (hA : IArg w a n L) (hB : IArg w b n L) :
    Calls Tryd.prog 11 #[.slice a n cap, .slice b n cap'] w fun e w' => e = .returned (.bool true) ∧ Below w.heap.size w w' := by
  have hn := hA.2.2
  have HA := hidden hA
  have HB := hidden hB
  clear hA hB
  go_enter Tryd.func11, Tryd.ntmps11
  go_wp2_with fail
  go_loopg [5] n (fun g y wr => ∃ (i : Nat), i + g = n ∧ y = .int .i64 (i : Int) ∧ Hid (Below w.heap.size w wr))
  case atStart => exact ⟨0, by omega, rfl, Below.refl _ _⟩
  case round =>
    obtain ⟨i, hig, rfl, HW⟩ := hrel
    by_cases hi : i < n
    · have hiz : (i : Int) < (n : Int) := by omega
      obtain ⟨b1, o1, rfl, h1⟩ := (HA.out.below HW.out).at (by omega)
      obtain ⟨b2, o2, rfl, h2⟩ := (HB.out.below HW.out).at (by omega)
      have c1 := h1 i hi
      have c2 := h2 i hi
      clear h1 h2
      generalize L.getD i 0 = x at *
      go_wp2_with fail
      go_quiet (fail)
      go_wp2_with fail
      go_roundg (n - (i + 1))
      case measure => omega
      case rel => exact ⟨i + 1, by omega, by go_num, hidden (below_drewN HW.out _)⟩
    · have hiz : ¬ (i : Int) < (n : Int) := by omega
      go_wp2_with fail
      go_ret
      exact ⟨rfl, HW.out⟩
theorem undVO : Tryd.prog.underlying 38 = some (.struct (Tryd.prog.fieldsOf 38)) := by kernel_rfl
theorem heldVO : Tryd.prog.stoodInHeld 38 = false := by kernel_rfl
theorem grdVO : Tryd.prog.eqGuardType Tryd.prog.depth 38 = false := by kernel_rfl
theorem vgrd (o1 o2 : Operand) (xs ys : Array Value) (w : World) : (eqGuard .neq 38 o1 o2 (.agg xs) (.agg ys)).run Tryd.prog w = .ok () w := run_eqGuard_agg w .neq 38 o1 o2 xs ys grdVO
theorem vcmp (x y : Int) (w : World) : (binOp .neq 38 (.agg #[.int .i64 x, .int .i64 y]) (.agg #[.int .i64 x, .int .i64 y])).run Tryd.prog w = .ok (.bool false) w := by
  rw [run_neq_struct, run_equalIn_agg w 9999 38 _ _ undVO heldVO]
  simp [go_sem]
set_option maxHeartbeats 1000000 in
set_option maxRecDepth 100000 in
theorem vs_same (a b : Option Addr) (n cap cap' : Nat) (L : Vs) (w : World) (hA : VArg w a n L) (hB : VArg w b n L) :
    Calls Tryd.prog 9 #[.slice a n cap, .slice b n cap'] w fun e w' => e = .returned (.bool true) ∧ Below w.heap.size w w' := by
  have hn := hA.2.2
  have HA := hidden hA
  have HB := hidden hB
  clear hA hB
  go_enter Tryd.func9, Tryd.ntmps9
  go_wp2_with fail
  go_loopg [5] n (fun g y wr => ∃ (i : Nat), i + g = n ∧ y = .int .i64 (i : Int) ∧ Hid (Below w.heap.size w wr))
  case atStart => exact ⟨0, by omega, rfl, Below.refl _ _⟩
  case round =>
    obtain ⟨i, hig, rfl, HW⟩ := hrel
    by_cases hi : i < n
    · have hiz : (i : Int) < (n : Int) := by omega
      obtain ⟨b1, o1, rfl, _, h1⟩ := (HA.out.below HW.out).at (by omega)
      obtain ⟨b2, o2, rfl, _, h2⟩ := (HB.out.below HW.out).at (by omega)
      obtain ⟨c1, e1⟩ := h1 i hi
      obtain ⟨c2, e2⟩ := h2 i hi
      clear h1 h2
      generalize (L.getD i (0, 0)).1 = x at *
      generalize (L.getD i (0, 0)).2 = y at *
      have hcmp := vcmp x y
      have hgrd := vgrd
      go_wp2_with fail
      go_quiet (fail)
      go_wp2_with fail
      go_roundg (n - (i + 1))
      case measure => omega
      case rel => exact ⟨i + 1, by omega, by go_num, hidden (below_drewN HW.out _)⟩
    · have hiz : ¬ (i : Int) < (n : Int) := by omega
      go_wp2_with fail
      go_ret
      exact ⟨rfl, HW.out⟩
end Go.Proofs.YtjhfjkacfnccdahDoor.RVoice
