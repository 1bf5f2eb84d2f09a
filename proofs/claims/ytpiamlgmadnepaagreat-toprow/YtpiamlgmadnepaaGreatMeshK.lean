/-
  What Send of package mesh returns, and what it leaves in memory. Its condition: the lofts are such as they may be.
-/
import Derived.Test.YtpiamlgmadnepaaGreatMeshJ
namespace Go.Proofs.YtpiamlgmadnepaaGreat.MS
open Go.ChangeShapes Go.WideShapes Go.ChangeAt Go.RowKit Go.Maps Go.Proofs.YtpiamlgmadnepaaGreat.Mem Go.Proofs.YtpiamlgmadnepaaGreat.NO Go.Proofs.YtpiamlgmadnepaaGreat.ND
set_option linter.unusedVariables false

theorem isTrack_calls (x : Int) (w : World) : Calls Tryz.prog 37 #[.int .i64 x] w fun e w' => e = .returned (.bool (okT x)) ∧ w' = w := by
  unfold okT
  by_cases h0 : 1 ≤ x
  · by_cases h1 : x ≤ 8
    · rw [decide_eq_true ⟨h0, h1⟩]
      go_enter Tryz.func37, Tryz.ntmps37
      go_wp2_with fail
      go_ret
      exact ⟨rfl, rfl⟩
    · rw [decide_eq_false (fun h => h1 h.2)]
      go_enter Tryz.func37, Tryz.ntmps37
      go_wp2_with fail
      go_ret
      exact ⟨rfl, rfl⟩
  · rw [decide_eq_false (fun h => h0 h.1)]
    go_enter Tryz.func37, Tryz.ntmps37
    go_wp2_with fail
    go_ret
    exact ⟨rfl, rfl⟩
theorem isNode_calls (b : Nat) (o : Nat → Tg) (P : MP) (M : Ms) (x : Int) (w : World) (h : MAt w o b P M) : Calls Tryz.prog 38 #[.pointer (some ⟨b, 0, none⟩), .int .i64 x] w fun e w' => e = .returned (.bool (decide (0 ≤ x ∧ x < (M.n : Int)))) ∧ w' = w := by
  have c1 := h.cells.2.1
  obtain ⟨a, c, hv⟩ : ∃ a c, P.nv = .slice a M.n c := by
    rcases h.nrow.2 with ⟨e, h0⟩ | ⟨g, cap, cur, e, _⟩
    · exact ⟨none, 0, by rw [e, h0]⟩
    · exact ⟨_, _, e⟩
  rw [hv] at c1
  obtain ⟨n, hn⟩ : ∃ n, M.n = n := ⟨_, rfl⟩
  rw [hn] at c1 ⊢
  clear h hv hn
  by_cases h0 : 0 ≤ x
  · by_cases h1 : x < (n : Int)
    · rw [decide_eq_true ⟨h0, h1⟩]
      go_enter Tryz.func38, Tryz.ntmps38
      go_wp2_with fail
      go_ret
      exact ⟨rfl, rfl⟩
    · rw [decide_eq_false (fun h => h1 h.2)]
      go_enter Tryz.func38, Tryz.ntmps38
      go_wp2_with fail
      go_ret
      exact ⟨rfl, rfl⟩
  · rw [decide_eq_false (fun h => h0 h.1)]
    go_enter Tryz.func38, Tryz.ntmps38
    go_wp2_with fail
    go_ret
    exact ⟨rfl, rfl⟩
theorem send_track (b : Nat) (tk s t l q : Int) (st : Bool) (bv : Value) (w : World) (h : okT tk = false) (hbv : ∃ a m c, bv = .slice a m c) :
    Calls Tryz.prog 12 #[.pointer (some ⟨b, 0, none⟩), .int .i64 tk, .agg #[.int .i64 s, .int .i64 t, .int .i64 l, .int .i64 q, .bool st, bv]] w fun e w' => e = .returned (errv 1) ∧ Below w.heap.size w w' := by
  obtain ⟨a, m, c, rfl⟩ := hbv
  have CT := hidden (isTrack_calls tk)
  rw [h] at CT
  clear h
  go_enter Tryz.func12, Tryz.ntmps12
  go_wp2_with fail
  refine (CT.out _).mono ?_
  rintro e w1 ⟨rfl, rfl⟩
  go_wp2_with fail
  go_ret
  exact ⟨rfl, (Below.refl _ _).alloc (Nat.le_refl _) _⟩
theorem send_none (b k : Nat) (o : Nat → Tg) (P : MP) (M : Ms) (s t l q : Int) (st : Bool) (a : Option Addr) (m c : Nat) (w : World) (h : MAt w o b P M) (hk : k < 8) (hr : M.rt k = -1) :
    Calls Tryz.prog 12 #[.pointer (some ⟨b, 0, none⟩), .int .i64 ((k : Int) + 1), .agg #[.int .i64 s, .int .i64 t, .int .i64 l, .int .i64 q, .bool st, .slice a m c]] w fun e w' => e = .returned (errv 5) ∧ Below w.heap.size w w' := by
  have CT := hidden (isTrack_calls ((k : Int) + 1))
  rw [show okT ((k : Int) + 1) = true from by simp [okT]; omega] at CT
  obtain ⟨W0, hW0⟩ : ∃ W0, w.alloc (.cells #[.int .i64 s, .int .i64 t, .int .i64 l, .int .i64 q, .bool st, .slice a m c] 38) = W0 := ⟨_, rfl⟩
  have hB0 : Below w.heap.size w W0 := by rw [← hW0]; exact (Below.refl _ _).alloc (Nat.le_refl _) _
  have cr := (h.below hB0).root hk
  rw [hr] at cr
  have hk3 : wrap64 ((k : Int) + 1 - 1) = (k : Int) := by unfold wrap64; omega
  have hk5 : wrap64 (k : Int) = (k : Int) := by unfold wrap64; omega
  have hk4 : (k : Int) < 8 := by omega
  have HW := hidden hW0
  have HB := hidden hB0
  clear h hr hW0 hB0
  go_enter Tryz.func12, Tryz.ntmps12
  go_upto_region 1 with fail
  rw [HW.out]
  go_wp2_with fail
  refine (CT.out _).mono ?_
  rintro e w1 ⟨rfl, rfl⟩
  go_wp2_with fail
  go_ret
  exact ⟨rfl, HB.out⟩
/-- a packet is sent where its track begins -/
def Ms.send (M : Ms) (k r : Nat) (tr : Tr) (p : RM.Pk) : Ms := ({ M with nd := updN M.nd r (({ M.nd r with nw := M.nw } : Nd).tookG k tr p (M.nd r).id 1 M.nw) } : Ms).out r
theorem MOk.send {M : Ms} (h : MOk M) {k r : Nat} {tr : Tr} {p : RM.Pk} (hk : k < 8) (hr : r < M.n) (ht : (M.nd r).tr k = some tr) (hf : PM.fault p.s p.t p.l p.q p.L.length = 0) : MOk (M.send k r tr p) := by
  refine MOk.out (M := { M with nd := updN M.nd r (({ M.nd r with nw := M.nw } : Nd).tookG k tr p (M.nd r).id 1 M.nw) }) hr h.n1 h.n16 h.nw ?_
  intro j hj
  obtain ⟨k1, k2, k3, k4⟩ := h.nd j hj
  show NdOk M.n (updN M.nd _ _ j) ∧ (j ≠ _ → (updN M.nd _ _ j).lt = []) ∧ (updN M.nd _ _ j).nw ≤ M.nw ∧ (updN M.nd _ _ j).id = _
  by_cases c : j = r
  · subst c
    rw [updN_at]
    have e : ((({ M.nd j with nw := M.nw } : Nd).tookG k tr p (M.nd j).id 1 M.nw)).nw = M.nw ∧ ((({ M.nd j with nw := M.nw } : Nd).tookG k tr p (M.nd j).id 1 M.nw)).id = (M.nd j).id := by
      unfold Nd.tookG
      split <;> exact ⟨rfl, rfl⟩
    exact ⟨(k1.later k3 h.nw.2).took hk ht hf, fun e => absurd rfl e, by rw [e.1]; exact Int.le_refl _, e.2.trans k4⟩
  · rw [updN_ne _ _ c]
    exact ⟨k1, fun _ => k2, k3, k4⟩
theorem send_cells {w : World} {o : Nat → Tg} {b : Nat} {P : MP} {M : Ms} (h : MAt w o b P M) {r : Nat} (hr : r < M.n) {rb rc : Nat} (hnv : P.nv = .slice (some ⟨rb, 0, none⟩) M.n rc) : w.cell? ⟨b, 1, none⟩ = some (.slice (some ⟨rb, 0, none⟩) M.n rc) ∧ w.cell? ⟨rb, r, none⟩ = some (.pointer (some ⟨P.nb r, 0, none⟩)) := by
  obtain ⟨rb', rc', e, hc⟩ := h.nptr hr
  have c1 := h.cells.2.1
  rw [hnv] at e c1
  cases e
  exact ⟨c1, hc r hr⟩
set_option maxHeartbeats 4000000 in
set_option maxRecDepth 100000 in
/-- Send, whatever packet it is: 'f' is its fault -/
theorem send_calls (b k r : Nat) (o : Nat → Tg) (P : MP) (M : Ms) (tr : Tr) (s t l q : Int) (st : Bool) (a : Option Addr) (m c : Nat) (L : List Nat) (w : World) (h : MAt w o b P M) (hK : MOk M) (hk : k < 8) (hrt : M.rt k = (r : Int)) (hr : r < M.n) (ht : (M.nd r).tr k = some tr) (hpa : tr.pa = -1) (hA : Arg w a m L) (hno : a = none → m = 0 ∧ c = 0) (hF : 0 < m → ∀ ad, a = some ad → (o ad.block).n = 0) (hl : M.fl.length ≤ 500000) :
    Calls Tryz.prog 12 #[.pointer (some ⟨b, 0, none⟩), .int .i64 ((k : Int) + 1), .agg #[.int .i64 s, .int .i64 t, .int .i64 l, .int .i64 q, .bool st, .slice a m c]] w fun e w' => e = .returned (errv (PM.fault s t l q m)) ∧ (PM.fault s t l q m ≠ 0 → MDone w w' o b M) ∧ (PM.fault s t l q m = 0 → MDone w w' o b (M.send k r tr ⟨s, t, l, q, st, L, .slice a m c⟩)) := by
  have h16 := h.n16
  obtain ⟨kN, kL, kW, kI⟩ := hK.nd r hr
  have hnow := gtf_le kN.nw.1 kW hK.nw.2
  obtain ⟨rb, rc, hnv, _⟩ := h.nptr hr
  have hT := kN.tr k hk tr ht
  have CT := hidden (isTrack_calls ((k : Int) + 1))
  rw [show okT ((k : Int) + 1) = true from by simp [okT]; omega] at CT
  obtain ⟨W0, hW0⟩ : ∃ W0, w.alloc (.cells #[.int .i64 s, .int .i64 t, .int .i64 l, .int .i64 q, .bool st, .slice a m c] 38) = W0 := ⟨_, rfl⟩
  have hB0 : Below w.heap.size w W0 := by rw [← hW0]; exact (Below.refl _ _).alloc (Nat.le_refl _) _
  have hbx : W0.heap[w.heap.size]? = some (.cells #[.int .i64 s, .int .i64 t, .int .i64 l, .int .i64 q, .bool st, .slice a m c] 38 (0, 0)) := by rw [← hW0]; exact heap_alloc_new w _
  have cr := (h.below hB0).root hk
  rw [hrt] at cr
  -- what a world holds whose blocks are these and new ones
  have hS : ∀ W, Below W0.heap.size W0 W → W.cell? ⟨b, 1, none⟩ = some (.slice (some ⟨rb, 0, none⟩) M.n rc) ∧ W.cell? ⟨rb, r, none⟩ = some (.pointer (some ⟨P.nb r, 0, none⟩)) ∧ (W.cell? ⟨w.heap.size, 0, none⟩ = some (.int .i64 s) ∧ W.cell? ⟨w.heap.size, 1, none⟩ = some (.int .i64 t) ∧ W.cell? ⟨w.heap.size, 2, none⟩ = some (.int .i64 l) ∧ W.cell? ⟨w.heap.size, 3, none⟩ = some (.int .i64 q) ∧ W.cell? ⟨w.heap.size, 4, none⟩ = some (.bool st) ∧ W.cell? ⟨w.heap.size, 5, none⟩ = some (.slice a m c)) := by
    intro W hB
    obtain ⟨g1, g2⟩ := send_cells ((h.below hB0).below hB) hr hnv
    have hb := (hB.block _ (lt_of_block hbx)).trans hbx
    exact ⟨g1, g2, by refine ⟨?_, ?_, ?_, ?_, ?_, ?_⟩ <;> simp [World.cell?, hb]⟩
  obtain ⟨A1, hA1⟩ : ∃ A1 : World → Prop, (fun W => Below W0.heap.size W0 W) = A1 := ⟨_, rfl⟩
  have hA1e : ∀ W, A1 W ↔ Below W0.heap.size W0 W := fun W => by rw [← hA1]
  have HNow : Hid (∀ W, A1 W → Calls Tryz.prog 46 #[.pointer (some ⟨b, 0, none⟩)] W fun e w' => e = .returned (.int .i64 M.nw) ∧ (w'.cell? ⟨b, 1, none⟩ = some (.slice (some ⟨rb, 0, none⟩) M.n rc) ∧ w'.cell? ⟨rb, r, none⟩ = some (.pointer (some ⟨P.nb r, 0, none⟩)) ∧ (w'.cell? ⟨w.heap.size, 0, none⟩ = some (.int .i64 s) ∧ w'.cell? ⟨w.heap.size, 1, none⟩ = some (.int .i64 t) ∧ w'.cell? ⟨w.heap.size, 2, none⟩ = some (.int .i64 l) ∧ w'.cell? ⟨w.heap.size, 3, none⟩ = some (.int .i64 q) ∧ w'.cell? ⟨w.heap.size, 4, none⟩ = some (.bool st) ∧ w'.cell? ⟨w.heap.size, 5, none⟩ = some (.slice a m c))) ∧ Hid (A1 w' ∧ True)) := by
    refine hidden ?_
    intro W hA
    have hB := (hA1e W).1 hA
    refine (now_calls b o P M W ((h.below hB0).below hB)).mono ?_
    rintro e w' ⟨rfl, hb⟩
    have hB' := hB.trans (hb.mono hB.size)
    exact ⟨rfl, hS w' hB', hidden ⟨(hA1e _).2 hB', trivial⟩⟩
  obtain ⟨A2, hA2⟩ : ∃ A2 : World → Prop, (fun W => (PM.fault s t l q m ≠ 0 → MDone w W o b M) ∧ (PM.fault s t l q m = 0 → MDone w W o b { M with nd := updN M.nd r (({ M.nd r with nw := M.nw } : Nd).tookG k tr ⟨s, t, l, q, st, L, .slice a m c⟩ (M.nd r).id 1 M.nw) })) = A2 := ⟨_, rfl⟩
  have hA2e : ∀ W, A2 W ↔ (PM.fault s t l q m ≠ 0 → MDone w W o b M) ∧ (PM.fault s t l q m = 0 → MDone w W o b { M with nd := updN M.nd r (({ M.nd r with nw := M.nw } : Nd).tookG k tr ⟨s, t, l, q, st, L, .slice a m c⟩ (M.nd r).id 1 M.nw) }) := fun W => by rw [← hA2]
  have HSend : Hid (∀ W, Hid (A1 W ∧ True) → Calls Tryz.prog 45 #[.pointer (some ⟨P.nb r, 0, none⟩), .int .i64 ((k : Int) + 1), .agg #[.int .i64 s, .int .i64 t, .int .i64 l, .int .i64 q, .bool st, .slice a m c], .int .i64 M.nw] W fun e w' => e = .returned (errv (PM.fault s t l q m)) ∧ (w'.cell? ⟨b, 1, none⟩ = some (.slice (some ⟨rb, 0, none⟩) M.n rc) ∧ w'.cell? ⟨rb, r, none⟩ = some (.pointer (some ⟨P.nb r, 0, none⟩)) ∧ (w'.cell? ⟨w.heap.size, 0, none⟩ = some (.int .i64 s) ∧ w'.cell? ⟨w.heap.size, 1, none⟩ = some (.int .i64 t) ∧ w'.cell? ⟨w.heap.size, 2, none⟩ = some (.int .i64 l) ∧ w'.cell? ⟨w.heap.size, 3, none⟩ = some (.int .i64 q) ∧ w'.cell? ⟨w.heap.size, 4, none⟩ = some (.bool st) ∧ w'.cell? ⟨w.heap.size, 5, none⟩ = some (.slice a m c))) ∧ Hid (A2 w')) := by
    refine hidden ?_
    intro W hA0
    have hB := (hA1e W).1 hA0.out.1
    have hBt : Below w.heap.size w W := hB0.trans (hB.mono hB0.size)
    have hMW := h.grow hBt nobody
    have gN := hMW.nds r hr
    by_cases hf : PM.fault s t l q m = 0
    · have hAW : Arg W a m L := hA.below hBt
      have C := send_any (r + 1) (P.nb r) k (grow o w nobody) (P.np r) (M.nd r) tr M.nw s t l q st a m c L W (by omega) gN hk ht hpa hnow hT.gi hT.ri hAW hno hf (fun hm ad e => by
        have := hF hm ad e
        unfold NO.grow
        split
        · exact this
        · rfl) (M.nd r).nw (sb_all kN kW hK.nw.2) kN.si (by rw [kL]; have := hT.kl; simp; omega)
      rw [hf]
      refine C.mono ?_
      rintro e w' ⟨rfl, hd⟩
      obtain ⟨o2, P2, r1, r2, r3, r4, r5, r6, r7⟩ := hMW.node (i := r) hr hd
      have hc2 : Chg o meshy w w' := (Chg.of_below hBt o meshy).trans (mine_meshy r7 (by omega) (by omega)) (grow_ext _ _ _)
      refine ⟨rfl, ?_, hidden ((hA2e _).2 ⟨fun hx => absurd hf hx, fun _ => ⟨o2, P2, r1, Keep.of_ext ((grow_ext o w nobody).trans r6 hBt.size), hc2⟩⟩)⟩
      have hb : w'.heap[w.heap.size]? = some (.cells #[.int .i64 s, .int .i64 t, .int .i64 l, .int .i64 q, .bool st, .slice a m c] 38 (0, 0)) := r7.block ((hB.block _ (lt_of_block hbx)).trans hbx) (by rw [grow_new (Nat.le_refl _)]; unfold mine; show ¬ (0 = r + 1); omega)
      obtain ⟨g1, g2⟩ := send_cells r1 (r := r) (show r < M.n from hr) (show P2.nv = .slice (some ⟨rb, 0, none⟩) M.n rc by rw [r3]; exact hnv)
      rw [r2] at g2
      exact ⟨g1, g2, by refine ⟨?_, ?_, ?_, ?_, ?_, ?_⟩ <;> simp [World.cell?, hb]⟩
    · refine (send_badG (r + 1) (P.nb r) k (grow o w nobody) (P.np r) (M.nd r) tr M.nw s t l q st a m c W gN hk ht hpa hnow hf).mono ?_
      rintro e w' ⟨rfl, hb⟩
      refine ⟨rfl, hS w' (hB.trans (hb.mono hB.size)), hidden ((hA2e _).2 ⟨fun _ => MDone.refl h (hBt.trans (hb.mono hBt.size)), fun hx => absurd hx hf⟩)⟩
  have HOut : Hid (∀ W, A2 W → PM.fault s t l q m = 0 → Calls Tryz.prog 47 #[.pointer (some ⟨b, 0, none⟩), .int .i64 (r : Int)] W fun e w' => e = .returned (.tuple #[]) ∧ Hid (MDone w w' o b (M.send k r tr ⟨s, t, l, q, st, L, .slice a m c⟩))) := by
    refine hidden ?_
    intro W hA hf
    obtain ⟨o2, P2, r1, r2, r3⟩ := ((hA2e _).1 hA).2 hf
    have hle := took_lt (N := ({ M.nd r with nw := M.nw } : Nd)) (i := k) (t := tr) (p := ⟨s, t, l, q, st, L, .slice a m c⟩) (og := (M.nd r).id) (h := 1) (now := M.nw)
    have hkl := hT.kl
    refine (letOut_calls b r o2 P2 _ W r1 hr (by
      show M.fl.length + (updN M.nd r _ r).lt.length ≤ _
      rw [updN_at]
      have e : ({ M.nd r with nw := M.nw } : Nd).lt.length = 0 := by show (M.nd r).lt.length = 0; rw [kL]; rfl
      omega)).mono ?_
    rintro e w' ⟨rfl, hd⟩
    obtain ⟨o3, P3, s1, s2, s3⟩ := hd
    exact ⟨rfl, hidden ⟨o3, P3, s1, r2.trans s2 r3.size, Chg.keep r3 s3 r2⟩⟩
  have HBad : Hid (∀ W, A2 W → PM.fault s t l q m ≠ 0 → MDone w W o b M) := hidden (fun W hA => ((hA2e W).1 hA).1)
  have S0 := hS W0.drew ((Below.refl _ _).drew)
  have HA0 : Hid (A1 W0.drew) := hidden ((hA1e _).2 ((Below.refl _ _).drew))
  obtain ⟨f, hff⟩ : ∃ f, PM.fault s t l q m = f := ⟨_, rfl⟩
  rw [hff] at HSend HOut HBad ⊢
  obtain ⟨nw, hnw⟩ : ∃ z, M.nw = z := ⟨_, rfl⟩
  obtain ⟨nn, hnn⟩ : ∃ z, M.n = z := ⟨_, rfl⟩
  obtain ⟨nb, hnb⟩ : ∃ z, P.nb r = z := ⟨_, rfl⟩
  rw [hnw] at HNow HSend
  rw [hnn] at HNow HSend S0 hr
  rw [hnb] at HNow HSend S0
  obtain ⟨R, hR⟩ : ∃ R, M.send k r tr ⟨s, t, l, q, st, L, .slice a m c⟩ = R := ⟨_, rfl⟩
  rw [hR] at HOut ⊢
  have CN := hidden (HNow.out W0.drew HA0.out)
  have q1 := cmp_ne f
  have q2 := grd_ne f
  obtain ⟨hk3, hk5, hk4⟩ := k_facts hk
  have hrz : (r : Int) < (nn : Int) := Int.ofNat_lt.2 hr
  have hrn : ((r : Int) == -1) = false := by simp
  have HW := hidden hW0
  obtain ⟨pb, hpb⟩ : ∃ pb, w.heap.size = pb := ⟨_, rfl⟩
  rw [hpb] at S0 CN HSend
  clear h hK hrt ht hpa hA hno hF hl h16 kN kL kW kI hnow hnv hT hW0 hB0 hbx hS hA1 hA1e hA2 hA2e HA0 hff hnw hnn hnb hR hr HNow hk
  go_enter Tryz.func12, Tryz.ntmps12
  go_upto_region 1 with fail
  rw [HW.out]
  go_wp2_with fail
  refine (CT.out _).mono ?_
  rintro e w1 ⟨rfl, hw1⟩
  obtain rfl : W0 = w1 := hw1.symm
  go_upto_region 6 with fail
  clear hpb cr
  go_region_held3 (fun w' => w'.cell? ⟨b, 1, none⟩ = some (.slice (some ⟨rb, 0, none⟩) nn rc) ∧ w'.cell? ⟨rb, r, none⟩ = some (.pointer (some ⟨nb, 0, none⟩)) ∧ (w'.cell? ⟨pb, 0, none⟩ = some (.int .i64 s) ∧ w'.cell? ⟨pb, 1, none⟩ = some (.int .i64 t) ∧ w'.cell? ⟨pb, 2, none⟩ = some (.int .i64 l) ∧ w'.cell? ⟨pb, 3, none⟩ = some (.int .i64 q) ∧ w'.cell? ⟨pb, 4, none⟩ = some (.bool st) ∧ w'.cell? ⟨pb, 5, none⟩ = some (.slice a m c))) (with_reducible assumption) (first | (go_at_call 46; refine CN.out.mono ?_; rintro e w4 ⟨rfl, hS4, HD4⟩) | (go_at_call 45; refine (HSend.out _ (by with_reducible assumption)).mono ?_; rintro e w5 ⟨rfl, hS5, HD5⟩))
  clear hS5 S0 CN HSend hS4 HD4
  by_cases hf0 : f = 0
  · have d0 : decide (f = 0) = true := by simpa using hf0
    have CO := hidden (HOut.out w5 HD5.out hf0)
    have HF := hidden hf0
    clear HOut HD5 HBad hf0
    go_wp2_with fail
    refine CO.out.mono ?_
    rintro e w6 ⟨rfl, HR⟩
    go_wp2_with fail
    go_ret
    exact ⟨by rw [HF.out]; rfl, fun hx => absurd HF.out hx, fun _ => HR.out⟩
  · have d0 : decide (f = 0) = false := by simpa using hf0
    have HR := hidden (HBad.out w5 HD5.out hf0)
    have HF := hidden hf0
    clear HOut HD5 HBad hf0
    go_wp2_with fail
    go_ret
    exact ⟨rfl, fun _ => HR.out, fun hx => absurd hx HF.out⟩
end Go.Proofs.YtpiamlgmadnepaaGreat.MS

