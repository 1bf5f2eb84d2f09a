/-
  The walk of the Go function LayerClimbs: it returns true. No condition.
-/
import Derived.Test.YtaopgjonhgddoaeLayerC
import Derived.Deep.Cut
namespace Go.Proofs.Ytaopgjonhgddoae.LClimbs
open Go.ChangeShapes Go.WideShapes Go.ChangeAt Go.RowKit Go.Proofs.Ytaopgjonhgddoae.PM Go.Proofs.Ytaopgjonhgddoae.Mem Go.Proofs.Ytaopgjonhgddoae.Pack Go.Proofs.Ytaopgjonhgddoae.LM Go.Proofs.Ytaopgjonhgddoae.Layer
set_option linter.unusedVariables false

theorem fault_l {l : Int} (h0 : 0 ≤ l) (h1 : l ≤ 3) : fault 0 0 l 0 0 = 0 := by unfold fault; simp; omega
/-- an empty Start of a layer -/
theorem take_start (b : Nat) (m nw la n l : Int) (br : Bool) (w : World) (h : LayerAt w b m nw la br) (h0 : 0 ≤ l) (h1 : l ≤ 3) (h2 : 0 ≤ n) (h3 : n ≤ 100) (h4 : ¬ n ≤ la) :
    Calls Try.prog 11 #[.pointer (some ⟨b, 0, none⟩), .agg #[.int .i64 n, .bool false, .int .i64 0, .int .i64 0, .int .i64 l, .int .i64 0, .bool true, .slice none 0 0]] w fun e w' => e = .returned (.tuple #[.bool (goes m nw l br true), .nilIface]) ∧ LayerAt w' b m (if goes m nw l br true then l else nw) n (if goes m nw l br true then false else br) ∧ Only [b] w w' := by
  have hf : tkf la n false (fault 0 0 l 0 0) = 0 := by rw [fault_l h0 h1]; exact tkf_pack h2 (by omega) h4
  have := take_pack b m nw la n br 0 0 l 0 true none 0 0 w h hf h0
  simp only [Bool.and_true] at this
  exact this
theorem take_lost (b : Nat) (m nw la n : Int) (br : Bool) (w : World) (h : LayerAt w b m nw la br) (hn : 0 ≤ nw) (h2 : 0 ≤ n) (h3 : n ≤ 100) (h4 : ¬ n ≤ la) :
    Calls Try.prog 11 #[.pointer (some ⟨b, 0, none⟩), .agg #[.int .i64 n, .bool true, .int .i64 0, .int .i64 0, .int .i64 0, .int .i64 0, .bool false, .slice none 0 0]] w fun e w' => e = .returned (.tuple #[.bool false, .nilIface]) ∧ LayerAt w' b m nw n true ∧ Only [b] w w' := by
  have hf : tkf la n true (fault 0 0 0 0 0) = 0 := tkf_gone h2 (by omega) h4
  have := take_gone b m nw la n br 0 0 0 0 false none 0 0 w h hf
  rw [show decide (nw ≠ -1) = true by simp; omega] at this
  exact this

set_option maxHeartbeats 1000000 in
set_option maxRecDepth 100000 in
theorem walk_out (a b lim : Int) (gone : Bool) (w : World) (h : a < 0 ∨ 3 < a ∨ b < 0 ∨ 3 < b) :
    Calls Try.prog 5 #[.int .i64 a, .int .i64 b, .bool gone, .int .i64 lim] w fun e w' => e = .returned (.bool true) ∧ Below w.heap.size w w' := by
  have HN := hidden (fun W => new_ok 3 W (by omega) (by omega))
  by_cases c0 : a < 0
  · clear h
    go_enter Try.func5, Try.ntmps5
    go_wp2_with fail
    refine (HN.out _).mono ?_
    rintro e w1 ⟨lb, rfl, hlb, hL, hB⟩
    clear hL
    go_wp2_with fail
    go_ret
    exact ⟨rfl, hB⟩
  by_cases c1 : 3 < a
  · clear h
    go_enter Try.func5, Try.ntmps5
    go_wp2_with fail
    refine (HN.out _).mono ?_
    rintro e w1 ⟨lb, rfl, hlb, hL, hB⟩
    clear hL
    go_wp2_with fail
    go_ret
    exact ⟨rfl, hB⟩
  by_cases c2 : b < 0
  · clear h
    go_enter Try.func5, Try.ntmps5
    go_wp2_with fail
    refine (HN.out _).mono ?_
    rintro e w1 ⟨lb, rfl, hlb, hL, hB⟩
    clear hL
    go_wp2_with fail
    go_ret
    exact ⟨rfl, hB⟩
  · have c3 : 3 < b := by omega
    clear h
    go_enter Try.func5, Try.ntmps5
    go_wp2_with fail
    refine (HN.out _).mono ?_
    rintro e w1 ⟨lb, rfl, hlb, hL, hB⟩
    clear hL
    go_wp2_with fail
    go_ret
    exact ⟨rfl, hB⟩

set_option maxHeartbeats 4000000 in
set_option maxRecDepth 100000 in
theorem walk_in (a b lim : Int) (gone : Bool) (w : World) (a0 : 0 ≤ a) (a1 : a ≤ 3) (b0 : 0 ≤ b) (b1 : b ≤ 3) :
    Calls Try.prog 5 #[.int .i64 a, .int .i64 b, .bool gone, .int .i64 lim] w fun e w' => e = .returned (.bool true) ∧ Below w.heap.size w w' := by
  have HN := hidden (fun W => new_ok 3 W (by omega) (by omega))
  have H1 : Hid (∀ W lb, LayerAt W lb 3 (-1) (-1) false → Calls Try.prog 11 #[.pointer (some ⟨lb, 0, none⟩), .agg #[.int .i64 1, .bool false, .int .i64 0, .int .i64 0, .int .i64 a, .int .i64 0, .bool true, .slice none 0 0]] W fun e w' => e = .returned (.tuple #[.bool true, .nilIface]) ∧ LayerAt w' lb 3 a 1 false ∧ Only [lb] W w') := by
    refine hidden (fun W lb hW => ?_)
    have := take_start lb 3 (-1) (-1) 1 a false W hW a0 a1 (by omega) (by omega) (by omega)
    have e : goes 3 (-1) a false true = true := by simp [goes]; omega
    rw [e] at this
    exact this
  obtain ⟨mo, hmo⟩ : ∃ mo, (if 0 ≤ lim ∧ lim ≤ 3 then lim else 3) = mo := ⟨_, rfl⟩
  have m0 : 0 ≤ mo := by rw [← hmo]; split <;> omega
  have m1 : mo ≤ 3 := by rw [← hmo]; split <;> omega
  have HM := hidden hmo
  have H2 : Hid (∀ W lb, LayerAt W lb 3 a 1 false → Calls Try.prog 14 #[.pointer (some ⟨lb, 0, none⟩), .int .i64 mo] W fun e w' => e = .returned .nilIface ∧ LayerAt w' lb mo a 1 false ∧ Only [lb] W w') := hidden (fun W lb hW => limit_ok lb 3 a 1 mo false W hW m0 m1)
  have H3 : Hid (∀ W lb, LayerAt W lb mo a 1 false → Calls Try.prog 11 #[.pointer (some ⟨lb, 0, none⟩), .agg #[.int .i64 2, .bool true, .int .i64 0, .int .i64 0, .int .i64 0, .int .i64 0, .bool false, .slice none 0 0]] W fun e w' => e = .returned (.tuple #[.bool false, .nilIface]) ∧ LayerAt w' lb mo a 2 true ∧ Only [lb] W w') := hidden (fun W lb hW => take_lost lb mo a 1 2 false W hW a0 (by omega) (by omega) (by omega))
  obtain ⟨wv, hwv⟩ : ∃ wv, wants mo a gone = wv := ⟨_, rfl⟩
  obtain ⟨x, hx⟩ : ∃ x, goes mo a b gone true = x := ⟨_, rfl⟩
  obtain ⟨nw2, hnw⟩ : ∃ nw2, (if x then b else a) = nw2 := ⟨_, rfl⟩
  obtain ⟨br2, hbr⟩ : ∃ br2, (if x then false else gone) = br2 := ⟨_, rfl⟩
  have H4 : Hid (∀ W lb la, LayerAt W lb mo a la gone → Calls Try.prog 13 #[.pointer (some ⟨lb, 0, none⟩)] W fun e w' => e = .returned (.bool wv) ∧ ∃ k, w' = W.drewN k) := hidden (fun W lb la hW => by have := wants_calls lb mo a la gone W hW; rw [hwv] at this; exact this)
  have H5 : Hid (∀ W lb la, la ≤ 2 → LayerAt W lb mo a la gone → Calls Try.prog 11 #[.pointer (some ⟨lb, 0, none⟩), .agg #[.int .i64 3, .bool false, .int .i64 0, .int .i64 0, .int .i64 b, .int .i64 0, .bool true, .slice none 0 0]] W fun e w' => e = .returned (.tuple #[.bool x, .nilIface]) ∧ LayerAt w' lb mo nw2 3 br2 ∧ Only [lb] W w') := by
    refine hidden (fun W lb la hla hW => ?_)
    have := take_start lb mo a la 3 b gone W hW b0 b1 (by omega) (by omega) (by omega)
    rw [hx, hnw, hbr] at this
    exact this
  have H6 : Hid (∀ W lb, LayerAt W lb mo nw2 3 br2 → Calls Try.prog 12 #[.pointer (some ⟨lb, 0, none⟩)] W fun e w' => e = .returned (.int .i64 nw2) ∧ w' = W) := hidden (fun W lb hW => now_calls lb mo nw2 3 br2 W hW)
  have HWv : Hid (wv = (gone || decide (mo < a))) := by
    refine hidden ?_
    have : ¬ a = -1 := by omega
    rw [← hwv]; simp [wants, this]
  have HX : Hid (x = (decide (b ≤ mo) && (decide (a ≤ b) || gone || decide (mo < a)))) := by
    refine hidden ?_
    rw [← hx]; simp [goes]
  have HNw := hidden hnw
  clear hwv hx hnw hbr hmo
  go_enter Try.func5, Try.ntmps5
  go_wp2_with fail
  refine (HN.out _).mono ?_
  rintro e w1 ⟨lb, rfl, hlb, hL, hB⟩
  have HL1 := hidden hL
  have HB1 := hidden hB
  clear hL hB HN
  go_wp2_with fail
  refine (H1.out _ lb HL1.out).mono ?_
  rintro e w2 ⟨rfl, hL, ho⟩
  have HL2 := hidden hL
  have HB2 : Hid (Below w.heap.size w w2) := HB1.out.trans (ho.below HB1.out.size (by simp; omega))
  clear hL ho HL1 HB1 H1
  obtain ⟨jb, hjb⟩ : ∃ jb : Bool, decide (0 ≤ lim ∧ lim ≤ 3) = jb := ⟨_, rfl⟩
  have HJb := hidden hjb
  clear hjb
  go_upto_region 6 with fail
  go_cut [59] from 54 (fun c wx => c = .bool jb ∧ wx = w2)
  case first =>
    by_cases l0 : 0 ≤ lim
    · have e := hidden (by rw [← HJb.out]; simp [l0] : decide (lim ≤ 3) = jb)
      clear HJb
      go_wp2_with fail
      go_meet
      exact ⟨congrArg Value.bool e.out, rfl⟩
    · have e := hidden (by rw [← HJb.out]; simp [l0] : false = jb)
      clear HJb
      go_wp2_with fail
      go_meet
      exact ⟨congrArg Value.bool e.out, rfl⟩
  case rest =>
  obtain ⟨rfl, rfl⟩ := hcut
  go_upto_if 59 with fail
  go_cut [13] from 60 (fun y wx => y = .int .i64 mo ∧ wx = wc)
  case first =>
    cases jb with
    | true =>
      have e : lim = mo := by rw [← HM.out, if_pos (of_decide_eq_true HJb.out)]
      have HE := hidden e
      clear e HM HJb
      go_wp2_with fail
      go_meet
      exact ⟨congrArg (Value.int .i64) HE.out, rfl⟩
    | false =>
      have e : 3 = mo := by rw [← HM.out, if_neg (of_decide_eq_false HJb.out)]
      have HE := hidden e
      clear e HM HJb
      go_wp2_with fail
      go_meet
      exact ⟨congrArg (Value.int .i64) HE.out, rfl⟩
  case rest =>
    obtain ⟨rfl, rfl⟩ := hcut
    clear HM HJb
    go_wp2_with fail
    refine (H2.out _ lb HL2.out).mono ?_
    rintro e w3 ⟨rfl, hL, ho⟩
    have HL3 := hidden hL
    have HB3 : Hid (Below w.heap.size w w3) := HB2.out.trans (ho.below HB2.out.size (by simp; omega))
    clear hL ho HL2 HB2 H2
    go_upto_if 64 with fail
    go_cut [] from 65 (fun wx => ∃ la, la ≤ 2 ∧ Hid (LayerAt wx lb mo a la gone ∧ Below w.heap.size w wx))
    case first =>
      cases gone with
      | true =>
        go_wp2_with fail
        refine (H3.out _ lb HL3.out).mono ?_
        rintro e w4 ⟨rfl, hL, ho⟩
        have HL4 := hidden hL
        have HB4 : Hid (Below w.heap.size w w4) := HB3.out.trans (ho.below HB3.out.size (by simp; omega))
        clear hL ho
        go_wp2_with fail
        go_meet
        exact ⟨2, by omega, hidden ⟨HL4.out, HB4.out⟩⟩
      | false =>
        go_wp2_with fail
        go_meet
        exact ⟨1, by omega, hidden ⟨HL3.out, HB3.out⟩⟩
    case rest =>
      obtain ⟨la, hla, HS⟩ := hcut
      clear HL3 HB3 H3
      go_wp2_with fail
      refine (H4.out _ lb la HS.out.1).mono ?_
      rintro e w5 ⟨rfl, k5, hk⟩
      have HL5 : Hid (LayerAt w5 lb mo a la gone) := by rw [hk]; exact HS.out.1.below (below_drewN (Below.refl _ _) _)
      have HB5 : Hid (Below w.heap.size w w5) := by rw [hk]; exact below_drewN HS.out.2 _
      clear hk HS H4
      go_wp2_with fail
      refine (H5.out _ lb la hla HL5.out).mono ?_
      rintro e w6 ⟨rfl, hL, ho⟩
      have HL6 := hidden hL
      have HB6 : Hid (Below w.heap.size w w6) := HB5.out.trans (ho.below HB5.out.size (by simp; omega))
      clear hL ho HL5 HB5 H5
      go_upto_region 15 with fail
      go_cut [106] from 83 (fun c wx => c = .bool false ∧ wx = w6)
      case first =>
        cases gone with
        | true =>
          have e := HWv.out
          simp only [Bool.true_or] at e
          subst e
          go_wp2_with fail
          go_meet
          exact ⟨by simp, rfl⟩
        | false =>
          have e := HWv.out
          simp only [Bool.false_or] at e
          subst e
          go_wp2_with fail
          go_meet
          exact ⟨by simp, rfl⟩
      case rest =>
        obtain ⟨rfl, rfl⟩ := hcut
        clear HWv
        go_upto_region 17 with fail
        go_cut [20] from 107 (fun y wx => y = .bool x ∧ wx = wc)
        case first =>
          by_cases p1 : b ≤ mo
          · have d1 : decide (b ≤ mo) = true := by simpa using p1
            by_cases p2 : a ≤ b
            · have d2 : decide (a ≤ b) = true := by simpa using p2
              have e := HX.out
              rw [d1, d2] at e
              have HE := hidden e
              clear e HX
              go_wp2_with fail
              go_meet
              exact ⟨congrArg Value.bool (by rw [HE.out]; rfl), rfl⟩
            · have d2 : decide (a ≤ b) = false := by simpa using p2
              cases gone with
              | true =>
                have e := HX.out
                rw [d1, d2] at e
                have HE := hidden e
                clear e HX
                go_wp2_with fail
                go_meet
                exact ⟨congrArg Value.bool (by rw [HE.out]; rfl), rfl⟩
              | false =>
                have e := HX.out
                rw [d1, d2] at e
                have HE := hidden e
                clear e HX
                go_wp2_with fail
                go_meet
                exact ⟨congrArg Value.bool (by rw [HE.out]; rfl), rfl⟩
          · have d1 : decide (b ≤ mo) = false := by simpa using p1
            have e := HX.out
            rw [d1] at e
            have HE := hidden e
            clear e HX
            go_wp2_with fail
            go_meet
            exact ⟨congrArg Value.bool (by rw [HE.out]; rfl), rfl⟩
        case rest =>
          obtain ⟨rfl, rfl⟩ := hcut
          clear HX
          cases x with
          | true =>
            have e : b = nw2 := HNw.out
            have HE := hidden e
            clear e HNw
            go_wp2_with fail
            refine (H6.out _ lb HL6.out).mono ?_
            rintro e w7 ⟨rfl, rfl⟩
            obtain rfl := HE.out
            go_wp2_with fail
            go_ret
            exact ⟨by simp, HB6.out⟩
          | false =>
            have e : a = nw2 := HNw.out
            have HE := hidden e
            clear e HNw
            go_wp2_with fail
            refine (H6.out _ lb HL6.out).mono ?_
            rintro e w7 ⟨rfl, rfl⟩
            obtain rfl := HE.out
            go_wp2_with fail
            go_ret
            exact ⟨by simp, HB6.out⟩
theorem walk (a b : Int) (gone : Bool) (lim : Int) (w : World) :
    Calls Try.prog 5 #[.int .i64 a, .int .i64 b, .bool gone, .int .i64 lim] w fun e w' => e = .returned (.bool true) ∧ Below w.heap.size w w' := by
  by_cases h : a < 0 ∨ 3 < a ∨ b < 0 ∨ 3 < b
  · exact walk_out a b lim gone w h
  · exact walk_in a b lim gone w (by omega) (by omega) (by omega) (by omega)
end Go.Proofs.Ytaopgjonhgddoae.LClimbs
