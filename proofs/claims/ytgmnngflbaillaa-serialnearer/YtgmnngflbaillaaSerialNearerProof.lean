/-
  The Go function SerialNearer returns true at every two numbers of 64 bits. No condition.
-/
import Derived.Test.YtgmnngflbaillaaRows
import Derived.Test.YtgmnngflbaillaaSerial
import Derived.WalkKit
import Derived.ProofKit
import Derived.OpenShut
namespace Go.Proofs.Ytgmnngflbaillaa.serialNearer
open Go.ChangeShapes Go.WideShapes Go.ChangeAt Go.RowKit
set_option linter.unusedVariables false

theorem own : ownKnob Try.prog.godebug = none := by kernel_rfl

theorem near_facts (l s : Int) (hl : 0 ≤ l) (h0 : 0 ≤ s) (h1 : s ≤ 65535) :
    Ser.unw l s % 65536 = s ∧ 0 ≤ Ser.unw l s ∧ Ser.unw l s - l ≤ 65536 ∧ l - Ser.unw l s ≤ 32768 := by
  unfold Ser.unw Ser.bey
  split <;> omega
theorem near_ways (l s : Int) (hl : 65536 ≤ l) (h0 : 0 ≤ s) (h1 : s ≤ 65535) :
    (l < Ser.unw l s ∧ Ser.unw l s - l < 32768 ∧ 1 ≤ Ser.bey s (l % 65536) ∧ Ser.bey s (l % 65536) < 32768) ∨
    (Ser.unw l s ≤ l ∧ (Ser.bey s (l % 65536) = 0 ∨ 32768 ≤ Ser.bey s (l % 65536))) := by
  unfold Ser.unw Ser.bey
  split <;> omega
set_option maxHeartbeats 1000000 in
theorem walk (a0 : Int) (a1 : Int) (w0 : (Lit.int .i64 a0).wf = true) (w1 : (Lit.int .i64 a1).wf = true) (w : World) :
    Calls Try.prog 5 #[.int .i64 a0, .int .i64 a1] w fun e w' => e = .returned (.bool true) ∧ Grown w w' := by
  have b0 := bounds_i64 w0
  have b1 := bounds_i64 w1
  obtain ⟨b00, b01⟩ := b0
  obtain ⟨b10, b11⟩ := b1
  clear w0 w1
  have f5 : Ser.bey 5 4 = 1 := by decide
  have F5a : 1 ≤ Ser.bey 5 4 := by omega
  have F5b : Ser.bey 5 4 < 32768 := by omega
  clear f5
  by_cases hr : a0 < 0 ∨ 1099511627776 < a0 ∨ a1 < 0 ∨ 65535 < a1
  · have H : Hid (a0 < 0 ∨ 1099511627776 < a0 ∨ a1 < 0 ∨ 65535 < a1) := hr
    have hr2 : a0 < 0 ∨ (0 ≤ a0 ∧ 1099511627776 < a0) ∨ (0 ≤ a0 ∧ a0 ≤ 1099511627776 ∧ a1 < 0) ∨ (0 ≤ a0 ∧ a0 ≤ 1099511627776 ∧ 0 ≤ a1 ∧ 65535 < a1) := by omega
    clear hr
    rcases hr2 with h | ⟨g0, h⟩ | ⟨g0, g1, h⟩ | ⟨g0, g1, g2, h⟩
    all_goals
      go_enter Try.func5, Try.ntmps5
      go_wp2_with fail
      refine (Ser.ahead_yes _ _ _ F5a F5b).mono ?_
      rintro e w' ⟨rfl, rfl⟩
      go_wp2_with fail
      refine (Ser.unwrap_err _ _ _ H.out).mono ?_
      rintro e w' ⟨rfl, rfl⟩
      go_wp2_with fail
      go_ret
      exact ⟨rfl, Grown.refl _⟩
  · have ha : 0 ≤ a0 := by omega
    have hb : a0 ≤ 1099511627776 := by omega
    have hc : 0 ≤ a1 := by omega
    have hd : a1 ≤ 65535 := by omega
    clear hr
    obtain ⟨n1, n2, n3, n4⟩ := near_facts a0 a1 ha hc hd
    have nb : (Ser.unw a0 a1 % 65536 != a1) = false := by simpa using n1
    clear n1
    by_cases hl : a0 < 65536
    · clear b00 b01 b10 b11
      go_enter Try.func5, Try.ntmps5
      go_wp2_with fail
      refine (Ser.ahead_yes _ _ _ F5a F5b).mono ?_
      rintro e w' ⟨rfl, rfl⟩
      go_wp2_with fail
      refine (Ser.unwrap_ok _ _ _ ha hb hc hd).mono ?_
      rintro e w' ⟨rfl, rfl⟩
      go_wp2_with fail
      go_ret
      exact ⟨rfl, Grown.refl _⟩
    · rcases near_ways a0 a1 (by omega) hc hd with ⟨g1, g2, g3, g4⟩ | ⟨g1, g2⟩
      · clear b00 b01 b10 b11
        go_enter Try.func5, Try.ntmps5
        go_wp2_with fail
        refine (Ser.ahead_yes _ _ _ F5a F5b).mono ?_
        rintro e w' ⟨rfl, rfl⟩
        go_wp2_with fail
        refine (Ser.unwrap_ok _ _ _ ha hb hc hd).mono ?_
        rintro e w' ⟨rfl, rfl⟩
        go_wp2_with fail
        refine (Ser.ahead_yes _ _ _ g3 g4).mono ?_
        rintro e w' ⟨rfl, rfl⟩
        go_wp2_with fail
        go_ret
        exact ⟨rfl, Grown.refl _⟩
      · have G2 : Hid (Ser.bey a1 (a0 % 65536) = 0 ∨ 32768 ≤ Ser.bey a1 (a0 % 65536)) := g2
        clear g2 b00 b01 b10 b11
        go_enter Try.func5, Try.ntmps5
        go_wp2_with fail
        refine (Ser.ahead_yes _ _ _ F5a F5b).mono ?_
        rintro e w' ⟨rfl, rfl⟩
        go_wp2_with fail
        refine (Ser.unwrap_ok _ _ _ ha hb hc hd).mono ?_
        rintro e w' ⟨rfl, rfl⟩
        go_wp2_with fail
        refine (Ser.ahead_no _ _ _ G2.out).mono ?_
        rintro e w' ⟨rfl, rfl⟩
        go_wp2_with fail
        go_ret
        exact ⟨rfl, Grown.refl _⟩

set_option maxRecDepth 100000 in
theorem lifted (os : Os) (started : os.Started) (H : Type) (enc : TypeId × Value → H) :
    ReturnsInHanded {} Try.checked os 5 .any (Rows.serialNearerSpec.pre6 enc Try.prog Try.f5 Rows.serialNearerRow.domain false) (Rows.serialNearerSpec.post enc Try.prog Try.f5 false true false false) := by
  refine returnsInHanded_of_change (C := Try.checked) own started (by kernel_rfl) Try.func5
    (ChangeSpec.witness6 (enc := enc) (C := Try.checked) false ⟨#[], #[.int .i64 0, .int .i64 0], []⟩ 8 (by kernel_rfl) (by kernel_rfl) (by kernel_rfl) (by kernel_rfl)) ?_
  intro W base args ds gs before hval0 hW hcnd _
  have hval : ∀ (j : Nat) t v, Try.f5.params[j]? = some t → args[j]? = some v → Value.okWide Try.prog W .any base t v := hval0
  have hW' := hW
  obtain ⟨p, q, hA0, hV, rfl, hfz, hnd⟩ := hW
  have hA : DataW.TrodAll enc Try.prog W 0 (fun _ => true) true Try.f5.params.toList args.toList ds p := hA0
  rw [Try.params5] at hA hval
  obtain ⟨v0, vs0, d0, ds0, p0, q0, hargs, rfl, rfl, h0, r0⟩ := trodAll_cons hA
  obtain ⟨v1, vs1, d1, ds1, p1, q1, rfl, rfl, rfl, h1, r1⟩ := trodAll_cons r0
  obtain ⟨rfl, rfl, rfl⟩ := trodAll_nil r1
  obtain rfl : args = #[v0, v1] := by cases args; simp_all
  obtain ⟨rfl, rfl⟩ := trodVars_none hV
  obtain ⟨a0, rfl, rfl, rfl, w0⟩ := open_int Try.underlying3 (hval 0 3 v0 rfl rfl) h0
  obtain ⟨a1, rfl, rfl, rfl, w1⟩ := open_int Try.underlying3 (hval 1 3 v1 rfl rfl) h1
  clear hA0 hval0
  simp only [List.append_nil] at hW'
  refine (walk a0 a1 w0 w1 W).mono fun e W' ⟨he, hg⟩ => ?_
  subst he
  exact ⟨_, rfl, post_of_same (pa := []) (pv := []) hW' (fun _ _ _ => (trodAll_cons_mk (shut_bool Try.underlying4 _) trodAll_mk0)) (fun sp _ => (trodAll_cons_mk (shut_int Try.underlying3 w0) (trodAll_cons_mk (shut_int Try.underlying3 w1) trodAll_mk0))) (fun _ _ => rfl) rfl
    (hg.frame _) hg.2.1 (ok_one (by kernel_rfl) rfl (okWide_bool_mk Try.underlying4 _))⟩

theorem over : Rows.serialNearerRow.holds Try.pinned (OpenSpec.ofChange Rows.serialNearerSpec) :=
  OpenClaim.holds_of_wide 5 Try.f5 rfl rfl rfl rfl rfl rfl rfl ⟨rfl, rfl, rfl, rfl, rfl⟩ rfl rfl rfl rfl rfl (by kernel_rfl) Try.func5 (by kernel_rfl)
    (of_decide_eq_true (by kernel_rfl)) (by unfold Func.isWrapper; first | (rw [if_pos (by decide +kernel)]; kernel_rfl) | (rw [if_neg (by decide +kernel)]; exact ⟨rfl, rfl⟩))
    (fun os started H enc _ => lifted os started H enc)

theorem proved : Rows.SerialNearerSaid :=
  over
end Go.Proofs.Ytgmnngflbaillaa.serialNearer
namespace Go.Proofs.Ytgmnngflbaillaa
theorem serialNearer_holds : Rows.SerialNearerSaid := serialNearer.proved
#print axioms serialNearer_holds
end Go.Proofs.Ytgmnngflbaillaa
