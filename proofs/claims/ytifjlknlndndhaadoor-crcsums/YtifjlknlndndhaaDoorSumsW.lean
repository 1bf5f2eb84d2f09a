/-
  The walk of the Go function CrcSums: it returns true at any bytes, of fewer than 2^47, and any three numbers. It changes nothing that was there. Its condition: package errors' variable errorType is as its text lays it.
-/
import Derived.Test.YtifjlknlndndhaaDoorSums
import Derived.Deep.RegionWith
namespace Go.Proofs.YtifjlknlndndhaaDoor.Sums
open Go.ChangeShapes Go.WideShapes Go.ChangeAt Go.RowKit Go.Proofs.YtifjlknlndndhaaDoor.CM Go.Proofs.YtifjlknlndndhaaDoor.Mem Go.Proofs.YtifjlknlndndhaaDoor.Crc Go.Proofs.YtifjlknlndndhaaDoor.RCrc
set_option linter.unusedVariables false

theorem conv_heap {P : Program} {w W : World} {a : Option Addr} {n cap src e dst : Nat} {L : List Nat} (hs : P.underlying src = some (.slice e)) (he : P.underlying e = some (.int .u8)) (hd : P.underlying dst = some .string)
    (h : Arg w a n L) (hsp : ∀ ad, a = some ad → ∃ b o, ad = ⟨b, o, none⟩) (hW : W.heap = w.heap) : (convert src dst (.slice a n cap)).run P W = .ok (.string (str L)) W := by
  have h' : Arg W a n L := ⟨⟨h.1.1, fun j hj => by
    obtain ⟨b, o, e, hc⟩ := h.1.2 j hj
    exact ⟨b, o, e, by rw [← hc]; simp [World.cell?, hW]⟩⟩, h.2⟩
  exact conv_arg hs he hd h' hsp
theorem sealed_lt {L : List Nat} (h : ∀ c ∈ L, c < 256) : ∀ c ∈ L ++ be4 (go 0 L), c < 256 := by
  intro c hc
  rcases List.mem_append.1 hc with h' | h'
  · exact h c h'
  · exact be4_lt _ c h'

theorem fin_calls (a0 : Option Addr) (len cap : Nat) (L : List Nat) (g : Nat) (ap : Option Addr) (np cp : Nat) (ao : Option Addr) (no co : Nat) (P : List Nat) (w : World) (hA : Arg w a0 len L) (hn : a0 = none → len = 0 ∧ cap = 0) (hr : len ≤ 140737488355320)
    (hS : Arg w (some ⟨g, 0, none⟩) (len + 4) (L ++ be4 (go 0 L))) (hp : Arg w ap np P) (hps : ∀ ad, ap = some ad → ∃ b o, ad = ⟨b, o, none⟩) (ho : Arg w ao no P) (hos : ∀ ad, ao = some ad → ∃ b o, ad = ⟨b, o, none⟩) :
    Calls Tryd.prog 28 #[.slice a0 len cap] w.drew fun e w5 => ∃ a5 c5, e = .returned (.slice a5 (len + 4) c5) ∧ (convert 44 9 (.slice a5 (len + 4) c5)).run Tryd.prog w5 = .ok (.string (str (L ++ be4 (go 0 L)))) w5 ∧
      (convert 44 9 (.slice (some ⟨g, 0, none⟩) (len + 4) (len + 4))).run Tryd.prog w5 = .ok (.string (str (L ++ be4 (go 0 L)))) w5 ∧ (convert 44 9 (.slice ap np cp)).run Tryd.prog w5 = .ok (.string (str P)) w5 ∧
      (convert 44 9 (.slice ao no co)).run Tryd.prog w5 = .ok (.string (str P)) w5 ∧ Below w.heap.size w w5 := by
  refine (rseal_calls a0 len cap L w.drew hA hn hr).mono ?_
  rintro e w5 ⟨v5, rfl, ho5, hb5⟩
  have hb : Below w.heap.size w w5 := (Below.refl _ _).drew.trans hb5
  obtain ⟨a5, c5, rfl, hq5, _, _, hqb5⟩ := own_slice ho5 (sealed_lt hA.1.1) (by omega)
  refine ⟨a5, c5, rfl, ?_, ?_, ?_, ?_, hb⟩
  · exact conv_arg Tryd.underlying44 Tryd.underlying5 Tryd.underlying9 hq5 (fun ad h => by obtain ⟨g, h, _⟩ := hqb5 ad h; exact ⟨g, 0, h⟩)
  · exact conv_arg Tryd.underlying44 Tryd.underlying5 Tryd.underlying9 (hS.below hb) (fun ad h => by simp at h; exact ⟨_, _, h.symm⟩)
  · exact conv_arg Tryd.underlying44 Tryd.underlying5 Tryd.underlying9 (hp.below hb) hps
  · exact conv_arg Tryd.underlying44 Tryd.underlying5 Tryd.underlying9 (ho.below hb) hos

theorem below_of_drewN {w w' : World} {k : Nat} (h : Below (w.drewN k).heap.size (w.drewN k) w') : Below w.heap.size w w' := (below_drewN (Below.refl _ _) k).trans h

/-- both Open alike, of whatever bytes -/
theorem open_gen (a : Option Addr) (len cap : Nat) (L : List Nat) (w0 : World) (hA : Arg w0 a len L) (hc : len ≤ cap) (hr : len ≤ 140737488355320) :
    ∃ (ao : Option Addr) (no co : Nat) (P : List Nat) (eo : Nat), eo ≤ 100 ∧
      (∀ w, Arg w a len L → Calls Tryd.prog 26 #[.slice a len cap] w fun e w' => e = .returned (.tuple #[.slice ao no co, .int .i64 (eo : Int)]) ∧ ∃ k, w' = w.drewN k) ∧
      (∀ w, Arg w a len L → Calls Tryd.prog 27 #[.slice a len cap] w fun e w' => ∃ ap np cp, e = .returned (.tuple #[.slice ap np cp, errv eo]) ∧ Arg w' ap np P ∧ (∀ ad, ap = some ad → ∃ b o, ad = ⟨b, o, none⟩) ∧ Below w.heap.size w w') ∧
      (∀ w, Arg w a len L → Arg w ao no P) ∧ ∀ ad, ao = some ad → ∃ b o, ad = ⟨b, o, none⟩ := by
  by_cases h4 : len < 4
  · refine ⟨none, 0, 0, [], 8, by decide, fun w _ => ?_, fun w _ => ?_, fun w _ => ⟨Bys.nil _ _, rfl, by decide⟩, fun ad h => by simp at h⟩
    · refine (ropen_short a len cap w h4).mono ?_
      rintro e w' ⟨rfl, rfl⟩
      exact ⟨rfl, 0, rfl⟩
    · refine (open_short a len cap w h4).mono ?_
      rintro e w' ⟨rfl, rfl⟩
      exact ⟨none, 0, 0, rfl, ⟨Bys.nil _ _, rfl, by decide⟩, fun ad h => by simp at h, Below.refl _ _⟩
  · obtain ⟨m, rfl⟩ : ∃ m, len = m + 4 := ⟨len - 4, by omega⟩
    obtain ⟨b, o, rfl, _⟩ := hA.1.2 0 (by have := hA.2.1; omega)
    obtain ⟨t0, t1, t2, t3, ht⟩ : ∃ t0 t1 t2 t3, L.drop m = [t0, t1, t2, t3] := by
      have h4 : (L.drop m).length = 4 := by have := hA.2.1; simp; omega
      match L.drop m, h4 with
      | [a, b, c, d], _ => exact ⟨a, b, c, d, rfl⟩
    have hL : L = L.take m ++ [t0, t1, t2, t3] := by rw [← ht, List.take_append_drop]
    have hm : (L.take m).length = m := by have := hA.2.1; simp; omega
    generalize L.take m = B at hL hm
    subst hL
    by_cases hne : num 0 [t0, t1, t2, t3] = go 0 B
    · refine ⟨some ⟨b, o, none⟩, m, cap, B, 0, by decide, fun w h => ropen_good b o cap m B t0 t1 t2 t3 w hm h hc hne, fun w h => ?_, fun w h => ?_, fun ad h => by simp at h; exact ⟨_, _, h.symm⟩⟩
      · refine (open_good b o cap m B t0 t1 t2 t3 w hm h hc hne (by omega)).mono ?_
        rintro e w' ⟨v, rfl, ho, hb⟩
        obtain ⟨ap, cp, rfl, hq, _, _, hqb⟩ := own_slice ho (fun c hc => h.1.1 c (by simp [hc])) (by omega)
        exact ⟨ap, m, cp, rfl, hq, fun ad h => by obtain ⟨g, h, _⟩ := hqb ad h; exact ⟨g, 0, h⟩, hb⟩
      · have := h.take m (by omega)
        rw [← hm, List.take_left] at this
        rw [hm] at this
        exact this
    · refine ⟨none, 0, 0, [], 9, by decide, fun w h => ropen_bad b o cap m B t0 t1 t2 t3 w hm h hc hne, fun w h => ?_, fun w _ => ⟨Bys.nil _ _, rfl, by decide⟩, fun ad h => by simp at h⟩
      refine (open_bad b o cap m B t0 t1 t2 t3 w hm h hc hne).mono ?_
      rintro e w' ⟨rfl, k, rfl⟩
      exact ⟨none, 0, 0, rfl, ⟨Bys.nil _ _, rfl, by decide⟩, fun ad h => by simp at h, below_drewN (Below.refl _ _) _⟩

set_option maxRecDepth 100000 in
set_option maxHeartbeats 8000000 in
theorem walk (a0 : Option Addr) (len cap : Nat) (L : List Nat) (sum y n : Int) (w : World) (hg : w.cell? ⟨0, 0, none⟩ = some (.iface 86 (.agg #[.pointer (some ⟨1, 25, none⟩)])))
    (hA : Arg w a0 len L) (hn : a0 = none → len = 0 ∧ cap = 0) (hc : len ≤ cap) (hr : len ≤ 140737488351232) :
    Calls Tryd.prog 5 #[.slice a0 len cap, .int .i64 sum, .int .i64 y, .int .i64 n] w fun e w' => e = .returned (.bool true) ∧ Below w.heap.size w w' := by
  have HG := hidden hg
  have HA := hidden hA
  have HN := hidden hn
  have HR0 := hidden (fun w h => rmore_calls 0 a0 len cap L w (by decide) h)
  have HM := hidden (fun w h => more_gen sum a0 len cap L w h)
  have HRM := hidden (fun w hw h => rmore_gen sum a0 len cap L w hw h)
  have HJ := hidden (fun w => join_gen sum y n w)
  have HRJ := hidden (fun w hw => rjoin_gen sum y n w hw)
  have hX : Hid (moreE sum = if wordB sum then 0 else 1) := rfl
  have hX2 : Hid (wordB sum = false → moreV sum L = 0) := fun h => by unfold moreV; rw [h]; rfl
  have hJ : Hid (joinE sum y n = if joinB sum y n then 0 else 1) := rfl
  have hJ2 : Hid (joinB sum y n = false → joinV sum y n = 0) := fun h => by unfold joinV; rw [h]; rfl
  have hE1 := moreE_le sum
  have hE2 := joinE_le sum y n
  have hJB : Hid (joinB sum y n = (wordB sum && wordB y && decide (0 ≤ n) && decide (n ≤ 1000000))) := rfl
  have HW1 := hidden (fun w => word_calls sum w)
  have HW2 := hidden (fun w => word_calls y w)
  generalize joinB sum y n = J at *
  generalize wordB sum = X at *
  generalize wordB y = Y at *
  generalize moreV sum L = mv at *
  generalize moreE sum = me at *
  generalize joinV sum y n = jv at *
  generalize joinE sum y n = je at *
  clear hg hA hn
  go_enter Tryd.func5, Tryd.ntmps5
  go_wp2_with fail
  refine (sum_arg HA.out).mono ?_
  rintro e w ⟨rfl, rfl⟩
  go_wp2_with fail
  refine (HR0.out _ HA.out).mono ?_
  rintro e w ⟨rfl, rfl⟩
  go_wp2_with fail
  refine (HW1.out _).mono ?_
  rintro e w ⟨rfl, rfl⟩
  go_wp2_with fail
  refine (HW2.out _).mono ?_
  rintro e w ⟨rfl, rfl⟩
  go_upto_if 30 with fail
  go_cut [11, 12] from 21 (fun s11 s12 wx => s11 = .int .i64 (me : Int) ∧ s12 = .int .i64 mv ∧ wx = w)
  case first =>
    cases X with
    | true =>
      go_wp2_with fail
      refine (HRM.out _ trivial HA.out).mono ?_
      rintro e w ⟨rfl, rfl⟩
      go_wp2_with fail
      go_meet
      exact ⟨by rw [hX.out]; rfl, rfl, rfl⟩
    | false =>
      go_wp2_with fail
      go_meet
      exact ⟨by rw [hX.out]; rfl, by rw [hX2.out trivial], rfl⟩
  case rest =>
  obtain ⟨rfl, rfl, rfl⟩ := hcut
  go_wp2_with fail
  refine (HM.out _ HA.out).mono ?_
  rintro e w ⟨rfl, rfl⟩
  go_wp2_with fail
  refine (same_gen me _ hE1 HG.out).mono ?_
  rintro e w1 ⟨rfl, hb⟩
  have HB1 := hidden hb
  have HA1 := hidden (HA.out.below hb)
  have HG1 := hidden ((hb.cell (p := ⟨0, 0, none⟩) (lt_of_cell HG.out)).trans HG.out)
  clear hb
  by_cases early : 20000 < n ∧ n ≤ 1000000
  · obtain ⟨p1, p2⟩ := early
    go_wp2_with fail
    go_ret
    exact ⟨rfl, HB1.out⟩
  go_upto_region 14 with fail
  go_cut [55] from 56 (fun s wx => s = .bool false ∧ wx = w1)
  case first =>
    by_cases p : 20000 < n
    · have p2 : decide (n ≤ 1000000) = false := by simp; omega
      go_wp2_with fail
      go_meet
      exact ⟨rfl, rfl⟩
    · go_wp2_with fail
      go_meet
      exact ⟨rfl, rfl⟩
  case rest =>
  obtain ⟨rfl, rfl⟩ := hcut
  go_upto_region 18 with fail
  go_cut [67] from 68 (fun s wx => s = .bool J ∧ wx = wc)
  case first =>
    cases X with
    | false =>
      go_wp2_with fail
      go_meet
      exact ⟨by rw [hJB.out]; simp, rfl⟩
    | true =>
      cases Y with
      | false =>
        go_wp2_with fail
        go_meet
        exact ⟨by rw [hJB.out]; simp, rfl⟩
      | true =>
        by_cases q0 : 0 ≤ n
        · by_cases q1 : n ≤ 1000000
          · have d0 : decide (0 ≤ n) = true := by simpa using q0
            have d1 : decide (n ≤ 1000000) = true := by simpa using q1
            go_wp2_with fail
            go_meet
            exact ⟨by rw [hJB.out]; simp; omega, rfl⟩
          · have d0 : decide (0 ≤ n) = true := by simpa using q0
            have d1 : decide (n ≤ 1000000) = false := by simpa using q1
            go_wp2_with fail
            go_meet
            exact ⟨by rw [hJB.out]; simp; omega, rfl⟩
        · have d0 : decide (0 ≤ n) = false := by simpa using q0
          go_wp2_with fail
          go_meet
          exact ⟨by rw [hJB.out]; simp; omega, rfl⟩
  case rest =>
  obtain ⟨rfl, rfl⟩ := hcut
  go_upto_if 67 with fail
  go_cut [11, 12] from 68 (fun s11 s12 wx => s11 = .int .i64 (je : Int) ∧ s12 = .int .i64 jv ∧ wx = wc)
  case first =>
    cases J with
    | true =>
      go_wp2_with fail
      refine (HRJ.out _ trivial).mono ?_
      rintro e w ⟨rfl, rfl⟩
      go_wp2_with fail
      go_meet
      exact ⟨by rw [hJ.out]; rfl, rfl, rfl⟩
    | false =>
      go_wp2_with fail
      go_meet
      exact ⟨by rw [hJ.out]; rfl, by rw [hJ2.out trivial], rfl⟩
  case rest =>
  obtain ⟨rfl, rfl, rfl⟩ := hcut
  go_wp2_with fail
  refine (HJ.out _).mono ?_
  rintro e w1 ⟨rfl, rfl⟩
  go_wp2_with fail
  refine (same_gen je _ hE2 HG1.out).mono ?_
  rintro e w2 ⟨rfl, hb⟩
  have HB2 := hidden (HB1.out.trans (hb.mono HB1.out.size))
  have HA2 := hidden (HA1.out.below hb)
  have HG2 := hidden ((hb.cell (p := ⟨0, 0, none⟩) (lt_of_cell HG1.out)).trans HG1.out)
  clear hb
  go_wp2_with fail
  refine (seal_calls a0 len cap L _ HA2.out HN.out (by omega)).mono ?_
  rintro e w3 ⟨rfl, hR, hb⟩
  have HB3 := hidden (HB2.out.trans (hb.mono HB2.out.size))
  have HA3 := hidden (HA2.out.below hb)
  have HG3 := hidden ((hb.cell (p := ⟨0, 0, none⟩) (lt_of_cell HG2.out)).trans HG2.out)
  have HR3 := hidden hR
  have hge : w.heap.size ≤ w2.heap.size := HB2.out.size
  clear hR hb
  obtain ⟨ao, no, co, P, eo, heo, CR, CO, CA, hos⟩ := open_gen a0 len cap L w3 HA3.out hc (by omega)
  have HCR := hidden CR
  have HCO := hidden CO
  have HCA := hidden CA
  have HOS := hidden hos
  clear CR CO CA hos
  go_wp2_with fail
  refine (HCR.out _ HA3.out).mono ?_
  rintro e w3a ⟨rfl, kq, rfl⟩
  go_wp2_with fail
  refine (HCO.out _ (by exact HA3.out)).mono ?_
  rintro e w4 ⟨ap, np, cp, rfl, hp, hps, hb0⟩
  have hb := below_of_drewN hb0
  have HP := hidden hp
  have HPS := hidden hps
  have HB4 := hidden (HB3.out.trans (hb.mono HB3.out.size))
  have HA4 := hidden (HA3.out.below hb)
  have HG4 := hidden ((hb.cell (p := ⟨0, 0, none⟩) (lt_of_cell HG3.out)).trans HG3.out)
  have HR4 := hidden (HR3.out.only (Only.of_below hb []) (by simp))
  clear hp hps hb hb0
  go_wp2_with fail
  refine (same_gen eo _ heo HG4.out).mono ?_
  rintro e w5 ⟨rfl, hb⟩
  have HB5 := hidden (HB4.out.trans (hb.mono HB4.out.size))
  have HA5 := hidden (HA4.out.below hb)
  have HP5 := hidden (HP.out.below hb)
  have HS5 : Hid (Arg w5 (some ⟨w2.heap.size, 0, none⟩) (len + 4) (L ++ be4 (go 0 L))) := ⟨(HR4.out.only (Only.of_below hb []) (by simp)).bys (sealed_lt HA.out.1.1), by simp [be4, HA.out.2.1], by omega⟩
  have k1 := conv_heap (W := w5.drew) (cap := len + 4) Tryd.underlying44 Tryd.underlying5 Tryd.underlying9 HS5.out (fun ad h => by simp at h; exact ⟨_, _, h.symm⟩) rfl
  have HC := hidden (fin_calls a0 len cap L w2.heap.size ap np cp ao no co P w5 HA5.out HN.out (by omega) HS5.out HP5.out HPS.out (HCA.out _ HA5.out) HOS.out)
  clear hb HR0 HM HRM HJ HRJ hX hX2 hJ hJ2 hE1 hE2 hJB HW1 HW2 HCR HCO HCA
  go_wp2_with fail
  go_region_with (go_at_call 28; refine HC.out.mono ?_; rintro e w6 ⟨a6, c6, rfl, k2, k3, k4, k5, hb6⟩)
  all_goals go_wp2_with fail
  all_goals go_ret
  all_goals exact ⟨rfl, HB5.out.trans (Below.mono (by assumption) HB5.out.size)⟩
end Go.Proofs.YtifjlknlndndhaaDoor.Sums
