/-
  What Tick of package node returns and leaves in memory, where one track is planned, nobody subscribes and nothing is given up. Its condition: the node is such as it may be.
-/
import Derived.Test.YtijfocggdjjnjaiGreatNRepD
namespace Go.Proofs.YtijfocggdjjnjaiGreat.ND
open Go.ChangeShapes Go.WideShapes Go.ChangeAt Go.RowKit Go.Maps Go.Lib Go.Proofs.YtijfocggdjjnjaiGreat.Mem Go.Proofs.YtijfocggdjjnjaiGreat.NO
set_option linter.unusedVariables false

/-- an element of a row of eight pointers -/
theorem arr_at (p : Value) (w : World) (hp : ∃ a, p = .pointer a) :
    (Instr.index 60 (.agg #[p, .pointer none, .pointer none, .pointer none, .pointer none, .pointer none, .pointer none, .pointer none]) (.int .i64 0)).run Tryz.prog w = .ok p w := by
  obtain ⟨a, rfl⟩ := hp
  kernel_rfl
theorem arr_1 (p : Value) (w : World) (hp : ∃ a, p = .pointer a) : (Instr.index 60 (.agg #[p, .pointer none, .pointer none, .pointer none, .pointer none, .pointer none, .pointer none, .pointer none]) (.int .i64 1)).run Tryz.prog w = .ok (.pointer none) w := by
  obtain ⟨a, rfl⟩ := hp
  kernel_rfl
theorem arr_2 (p : Value) (w : World) (hp : ∃ a, p = .pointer a) : (Instr.index 60 (.agg #[p, .pointer none, .pointer none, .pointer none, .pointer none, .pointer none, .pointer none, .pointer none]) (.int .i64 2)).run Tryz.prog w = .ok (.pointer none) w := by
  obtain ⟨a, rfl⟩ := hp
  kernel_rfl
theorem arr_3 (p : Value) (w : World) (hp : ∃ a, p = .pointer a) : (Instr.index 60 (.agg #[p, .pointer none, .pointer none, .pointer none, .pointer none, .pointer none, .pointer none, .pointer none]) (.int .i64 3)).run Tryz.prog w = .ok (.pointer none) w := by
  obtain ⟨a, rfl⟩ := hp
  kernel_rfl
theorem arr_4 (p : Value) (w : World) (hp : ∃ a, p = .pointer a) : (Instr.index 60 (.agg #[p, .pointer none, .pointer none, .pointer none, .pointer none, .pointer none, .pointer none, .pointer none]) (.int .i64 4)).run Tryz.prog w = .ok (.pointer none) w := by
  obtain ⟨a, rfl⟩ := hp
  kernel_rfl
theorem arr_5 (p : Value) (w : World) (hp : ∃ a, p = .pointer a) : (Instr.index 60 (.agg #[p, .pointer none, .pointer none, .pointer none, .pointer none, .pointer none, .pointer none, .pointer none]) (.int .i64 5)).run Tryz.prog w = .ok (.pointer none) w := by
  obtain ⟨a, rfl⟩ := hp
  kernel_rfl
theorem arr_6 (p : Value) (w : World) (hp : ∃ a, p = .pointer a) : (Instr.index 60 (.agg #[p, .pointer none, .pointer none, .pointer none, .pointer none, .pointer none, .pointer none, .pointer none]) (.int .i64 6)).run Tryz.prog w = .ok (.pointer none) w := by
  obtain ⟨a, rfl⟩ := hp
  kernel_rfl
theorem arr_7 (p : Value) (w : World) (hp : ∃ a, p = .pointer a) : (Instr.index 60 (.agg #[p, .pointer none, .pointer none, .pointer none, .pointer none, .pointer none, .pointer none, .pointer none]) (.int .i64 7)).run Tryz.prog w = .ok (.pointer none) w := by
  obtain ⟨a, rfl⟩ := hp
  kernel_rfl
set_option maxHeartbeats 4000000 in
set_option maxRecDepth 100000 in
theorem tick_calls (n b : Nat) (o : Nat → Tg) (P : NP) (N : Nd) (tr : Tr) (now : Int) (w : World) (hn : n ≠ 0) (hN : NAt w o n b P N) (ht : N.tr 0 = some tr) (hnone : ∀ i, i ≠ 0 → N.tr i = none) (hsb : N.sb = []) (hls : SInv N.sb N.ls) (hnow : GM.tf N.nw now = 0) (hG : GM.Inv 3 3 tr.gn tr.gT tr.gM) (htf : GM.tf tr.gn now = 0) (hpa : tr.pa ≠ -1) (hgG : tr.gG = []) (hgv : GM.gaveL 3 3 now tr.gM = []) (hef : GM.dueL 3 3 now tr.gM ≠ [] → Back.efault 1 tr.tk (BM.norm (sq (GM.dueL 3 3 now tr.gM))) 0 = 0 ∧ (Back.ebytes 1 tr.tk (BM.norm (sq (GM.dueL 3 3 now tr.gM))) 0).length ≤ 2000) (hl : N.lt.length ≤ 1000000) :
    Calls Tryz.prog 10 #[.pointer (some ⟨b, 0, none⟩), .int .i64 now] w fun e w' => e = .returned .nilIface ∧ Done w w' o n b (({ N with nw := now } : Nd).asked 0 tr now) := by
  have CA := hidden (Gaps.at_calls N.nw now w)
  rw [if_pos hnow, hnow] at CA
  obtain ⟨o0, ho0⟩ : ∃ o0, grow o w nobody = o0 := ⟨_, rfl⟩
  have he0 : Ext w o o0 := by rw [← ho0]; exact grow_ext o w nobody
  have hnew : ∀ j, w.heap.size ≤ j → (o0 j).n = 0 := fun j hj => by rw [← ho0, grow_new hj]
  obtain ⟨R, hRes⟩ : ∃ R, ({ N with nw := now } : Nd).asked 0 tr now = R := ⟨_, rfl⟩
  rw [hRes]
  -- behind the clock: the eight pointers, and what askForLost leaves
  have HA : Hid (∀ W, Below w.heap.size w W → W.cell? ⟨b, 0, none⟩ = some (.int .i64 N.nw) ∧ W.frozen? ⟨b, 0, none⟩ = false ∧ ((W.setCell ⟨b, 0, none⟩ (.int .i64 now)).cell? ⟨b, 2, none⟩ = some (.pointer (some ⟨(P.tp 0).p, 0, none⟩)) ∧ (W.setCell ⟨b, 0, none⟩ (.int .i64 now)).cell? ⟨b, 3, none⟩ = some (.pointer none) ∧ (W.setCell ⟨b, 0, none⟩ (.int .i64 now)).cell? ⟨b, 4, none⟩ = some (.pointer none) ∧ (W.setCell ⟨b, 0, none⟩ (.int .i64 now)).cell? ⟨b, 5, none⟩ = some (.pointer none) ∧ (W.setCell ⟨b, 0, none⟩ (.int .i64 now)).cell? ⟨b, 6, none⟩ = some (.pointer none) ∧ (W.setCell ⟨b, 0, none⟩ (.int .i64 now)).cell? ⟨b, 7, none⟩ = some (.pointer none) ∧ (W.setCell ⟨b, 0, none⟩ (.int .i64 now)).cell? ⟨b, 8, none⟩ = some (.pointer none) ∧ (W.setCell ⟨b, 0, none⟩ (.int .i64 now)).cell? ⟨b, 9, none⟩ = some (.pointer none)) ∧ (W.setCell ⟨b, 0, none⟩ (.int .i64 now)).cell? ⟨(P.tp 0).p, 2, none⟩ = some (.int .i64 tr.pa) ∧
      Calls Tryz.prog 26 #[.pointer (some ⟨b, 0, none⟩), .pointer (some ⟨(P.tp 0).p, 0, none⟩), .int .i64 now] (W.setCell ⟨b, 0, none⟩ (.int .i64 now)) fun e w' => e = .returned (.tuple #[]) ∧ Hid (Done w w' o n b R)) := by
    refine hidden ?_
    intro W hBW
    have hNW : NAt W o0 n b P N := hN.chg (S := fun _ => False) (Chg.of_below hBW _ _) (fun g hg => hg.elim) he0
    have hNs := hNW.setN hn now
    have hcs := chg_mine (hNW.chgB 0 (.int .i64 now))
    have tk : ∀ i, i ≠ 0 → i < 8 → (W.setCell ⟨b, 0, none⟩ (.int .i64 now)).cell? ⟨b, 2 + i, none⟩ = some (.pointer none) := by
      intro i h0 h8
      have := hNs.track h8
      rw [this]
      show some (tpv (N.tr i) _) = _
      rw [hnone i h0]
      rfl
    have t0 : (W.setCell ⟨b, 0, none⟩ (.int .i64 now)).cell? ⟨b, 2 + 0, none⟩ = some (.pointer (some ⟨(P.tp 0).p, 0, none⟩)) := by
      have := hNs.track (i := 0) (by omega)
      rw [this]
      show some (tpv (N.tr 0) _) = _
      rw [ht]
      rfl
    have bx := (hNs.trs 0 (by omega) tr ht).1.box
    refine ⟨hNW.cells.1, hNW.free 0, ⟨t0, tk 1 (by omega) (by omega), tk 2 (by omega) (by omega), tk 3 (by omega) (by omega), tk 4 (by omega) (by omega), tk 5 (by omega) (by omega), tk 6 (by omega) (by omega), tk 7 (by omega) (by omega)⟩, by simp only [World.cell?, bx]; simp, ?_⟩
    have C := ask_calls n b 0 o0 P { N with nw := now } tr now _ hn hNs (by omega) ht hG htf hpa hgG hgv hef hl
    rw [hRes] at C
    refine C.mono ?_
    rintro e w' ⟨rfl, o', P', q1, q2, q3⟩
    refine ⟨rfl, hidden ⟨o', P', q1, ?_, (Chg.of_below hBW _ _).trans (hcs.trans' q3) he0⟩⟩
    intro j hj
    rw [q2 j (by have := hBW.size; simp [World.setCell]; omega)]
    exact he0 j hj
  have hRs : R.sb = [] := by rw [← hRes]; exact hsb
  have hRl : SInv R.sb R.ls := by rw [← hRes]; exact hls
  have HSb : Hid (∀ W, Done w W o n b R → Calls Tryz.prog 27 #[.pointer (some ⟨b, 0, none⟩)] W fun e w' => ∃ a c, e = .returned (.slice a 0 c) ∧ Hid (Done w w' o n b R)) := by
    refine hidden ?_
    rintro W ⟨o', P', q1, q2, q3⟩
    refine (allSubs_calls n b o' P' R W q1 hRl).mono ?_
    rintro e w' ⟨v, rfl, hv, hb⟩
    rw [hRs] at hv
    have HD : Hid (Done w w' o n b R) := hidden ⟨o', P', q1.below hb, q2, q3.trans' (Chg.of_below hb _ _)⟩
    rcases hv.2 with ⟨rfl, _⟩ | ⟨g, cap, cur, rfl, _⟩
    · exact ⟨_, _, rfl, HD⟩
    · exact ⟨_, _, rfl, HD⟩
  have c0 := hN.cells.1
  obtain ⟨nw, hnw⟩ : ∃ nw, N.nw = nw := ⟨_, rfl⟩
  rw [hnw] at c0 CA HA
  obtain ⟨pp, hpp⟩ : ∃ pp, (P.tp 0).p = pp := ⟨_, rfl⟩
  rw [hpp] at HA
  obtain ⟨pa, hpa'⟩ : ∃ pa, tr.pa = pa := ⟨_, rfl⟩
  rw [hpa'] at HA hpa
  have e1 : (pa != -1) = true := by simpa using hpa
  clear hN ht hnone hsb hls hnow hG htf hgG hgv hef hl ho0 he0 hnew hRes hRs hRl hnw hpp hpa' hpa
  go_enter Tryz.func10, Tryz.ntmps10
  go_wp2_with fail
  refine CA.out.mono ?_
  rintro e w1 ⟨rfl, hb1⟩
  rw [show Gaps.errv 0 = Value.nilIface from rfl]
  obtain ⟨W1, hW1⟩ : ∃ W1, w1.alloc (.cells #[.int .i64 now] 58) = W1 := ⟨_, rfl⟩
  have hB1 : Below w.heap.size w W1 := by rw [← hW1]; exact hb1.alloc hb1.size _
  have hbk : W1.heap[w1.heap.size]? = some (.cells #[.int .i64 now] 58 (0, 0)) := by rw [← hW1]; exact heap_alloc_new w1 _
  have ck : W1.cell? ⟨w1.heap.size, 0, none⟩ = some (.int .i64 now) := by simp [World.cell?, hbk]
  obtain ⟨g0, g1, ⟨t0, t1, t2, t3, t4, t5, t6, t7⟩, cp, CK⟩ := HA.out W1 hB1
  obtain ⟨w2, hw2⟩ : ∃ w2, W1.setCell ⟨b, 0, none⟩ (.int .i64 now) = w2 := ⟨_, rfl⟩
  rw [hw2] at t0 t1 t2 t3 t4 t5 t6 t7 cp CK
  have HC := hidden CK
  obtain ⟨cb, hcb⟩ : ∃ cb, w1.heap.size = cb := ⟨_, rfl⟩
  rw [hcb] at ck
  have HW1 := hidden hW1
  have HW2 := hidden hw2
  clear hb1 hW1 hB1 hbk CA HA c0 hw2 CK
  go_upto_region 4 with fail
  first | rw [HW1.out] | skip
  clear hcb
  go_upto_region 5 with fail
  rw [HW2.out]
  clear g0 g1 ck
  go_wp2_with fail
  have i0 := fun W => arr_at (.pointer (some ⟨pp, 0, none⟩)) W ⟨_, rfl⟩
  have HD0 : Hid (w2 = w2) := hidden rfl
  go_loopg [34] 8 (fun g x wr => ∃ j : Nat, j + g = 8 ∧ x = .int .i64 (j : Int) ∧ ((j = 0 ∧ w2 = wr) ∨ (0 < j ∧ Hid (Done w wr o n b R))))
  case atStart => exact ⟨0, by omega, rfl, .inl ⟨rfl, rfl⟩⟩
  case round =>
    obtain ⟨j, hjg, rfl, hst⟩ := hrel
    rcases hst with ⟨rfl, rfl⟩ | ⟨hj0, HD⟩
    · go_wp2_with fail
      refine HC.out.mono ?_
      rintro e w3 ⟨rfl, HD⟩
      go_wp2_with fail
      go_roundg 7
      case measure => omega
      case rel => exact ⟨1, by omega, by go_num, .inr ⟨by omega, HD⟩⟩
    · clear t0 t1 t2 t3 t4 t5 t6 t7 cp HC i0
      by_cases hj8 : j = 8
      · subst hj8
        have CB := hidden (HSb.out wr HD.out)
        clear HSb HD
        go_wp2_with fail
        refine CB.out.mono ?_
        rintro e w4 ⟨a4, c4, rfl, HD4⟩
        go_wp2_with fail
        go_loopg [55] 0 (fun g x wx => x = .int .i64 0 ∧ w4 = wx)
        case atStart => exact ⟨rfl, rfl⟩
        case round =>
          obtain ⟨rfl, rfl⟩ := hrel
          go_wp2_with fail
          go_loopg [65] 0 (fun g x wx => x = .int .i64 0 ∧ w4 = wx)
          case atStart => exact ⟨rfl, rfl⟩
          case round =>
            obtain ⟨rfl, rfl⟩ := hrel
            go_wp2_with fail
            go_ret
            exact ⟨rfl, HD4.out⟩
      · rcases (by omega : j = 1 ∨ j = 2 ∨ j = 3 ∨ j = 4 ∨ j = 5 ∨ j = 6 ∨ j = 7) with rfl | rfl | rfl | rfl | rfl | rfl | rfl
        · have i1 := fun W => arr_1 (.pointer (some ⟨pp, 0, none⟩)) W ⟨_, rfl⟩
          clear hj0 hj8
          go_wp2_with fail
          go_roundg 6
          case measure => omega
          case rel => exact ⟨2, by omega, by go_num, .inr ⟨by omega, HD⟩⟩
        · have i1 := fun W => arr_2 (.pointer (some ⟨pp, 0, none⟩)) W ⟨_, rfl⟩
          clear hj0 hj8
          go_wp2_with fail
          go_roundg 5
          case measure => omega
          case rel => exact ⟨3, by omega, by go_num, .inr ⟨by omega, HD⟩⟩
        · have i1 := fun W => arr_3 (.pointer (some ⟨pp, 0, none⟩)) W ⟨_, rfl⟩
          clear hj0 hj8
          go_wp2_with fail
          go_roundg 4
          case measure => omega
          case rel => exact ⟨4, by omega, by go_num, .inr ⟨by omega, HD⟩⟩
        · have i1 := fun W => arr_4 (.pointer (some ⟨pp, 0, none⟩)) W ⟨_, rfl⟩
          clear hj0 hj8
          go_wp2_with fail
          go_roundg 3
          case measure => omega
          case rel => exact ⟨5, by omega, by go_num, .inr ⟨by omega, HD⟩⟩
        · have i1 := fun W => arr_5 (.pointer (some ⟨pp, 0, none⟩)) W ⟨_, rfl⟩
          clear hj0 hj8
          go_wp2_with fail
          go_roundg 2
          case measure => omega
          case rel => exact ⟨6, by omega, by go_num, .inr ⟨by omega, HD⟩⟩
        · have i1 := fun W => arr_6 (.pointer (some ⟨pp, 0, none⟩)) W ⟨_, rfl⟩
          clear hj0 hj8
          go_wp2_with fail
          go_roundg 1
          case measure => omega
          case rel => exact ⟨7, by omega, by go_num, .inr ⟨by omega, HD⟩⟩
        · have i1 := fun W => arr_7 (.pointer (some ⟨pp, 0, none⟩)) W ⟨_, rfl⟩
          clear hj0 hj8
          go_wp2_with fail
          go_roundg 0
          case measure => omega
          case rel => exact ⟨8, by omega, by go_num, .inr ⟨by omega, HD⟩⟩
end Go.Proofs.YtijfocggdjjnjaiGreat.ND

