/-
  The walk of the Go function AuditTells: it returns true. Its condition: package errors' variable errorType is as its text lays it.
-/
import Derived.Test.YtjnkgbdpacdgpaaDoorRPlaces
import Derived.Test.YtjnkgbdpacdgpaaDoorAuditD
import Derived.Test.YtjnkgbdpacdgpaaDoorRPack
import Derived.Test.YtjnkgbdpacdgpaaDoorTold
import Derived.LoopTactic
import Derived.Deep.CutRange
import Derived.Deep.LoopGhost
import Derived.Deep.AppendLies
namespace Go.Proofs.YtjnkgbdpacdgpaaDoor.ATells
open Go.ChangeShapes Go.WideShapes Go.ChangeAt Go.RowKit Go.Proofs.YtjnkgbdpacdgpaaDoor.PM Go.Proofs.YtjnkgbdpacdgpaaDoor.Mem Go.Proofs.YtjnkgbdpacdgpaaDoor.Pack Go.Proofs.YtjnkgbdpacdgpaaDoor.AU Go.Proofs.YtjnkgbdpacdgpaaDoor.Audit Go.Proofs.YtjnkgbdpacdgpaaDoor.RPack
set_option linter.unusedVariables false

theorem hg_of {w W : World} {u : Value} (h : w.cell? ⟨0, 0, none⟩ = some u) (hb : Below w.heap.size w W) : W.cell? ⟨0, 0, none⟩ = some u := (hb.cell (World.block_lt_of_cell? w ⟨0, 0, none⟩ h)).trans h
/-- an error of a number is the one told -/
theorem told_f (f : Nat) (W : World) (hf : f ≤ 100) (hg : W.cell? ⟨0, 0, none⟩ = some (.iface 76 (.agg #[.pointer (some ⟨1, 29, none⟩)]))) :
    Calls Tryd.prog 8 #[errv f, .int .i64 (f : Int)] W fun e w' => e = .returned (.bool true) ∧ Below W.heap.size W w' := by
  by_cases h0 : f = 0
  · subst h0
    refine (Told.same_nil 0 W).mono ?_
    rintro e w' ⟨rfl, rfl⟩
    exact ⟨rfl, Below.refl _ _⟩
  · rw [errv_pos h0]
    refine (Told.same_err f f W (by omega) (by omega) hg).mono ?_
    rintro e w' ⟨rfl, hb⟩
    exact ⟨by simp, hb⟩
theorem rtime_calls (x : Int) (w : World) : Calls Tryd.prog 13 #[.int .i64 x] w fun e w' => e = .returned (.bool (decide (0 ≤ x ∧ x ≤ 1000000))) ∧ w' = w := by
  by_cases h : 0 ≤ x
  · have d : decide (0 ≤ x) = true := by simpa using h
    go_enter Tryd.func13, Tryd.ntmps13
    go_wp2_with fail
    go_ret
    exact ⟨by simp [h], rfl⟩
  · have d : decide (0 ≤ x) = false := by simpa using h
    go_enter Tryd.func13, Tryd.ntmps13
    go_wp2_with fail
    go_ret
    exact ⟨by simp, rfl⟩
theorem pf_le (p : Pk) : pf p ≤ 4 := by
  rcases fault_cases p.s p.t p.l p.q p.m with h | h | h <;> (unfold pf; omega)
theorem rfa_le (X : List Pk) (i : Nat) : rfa X i ≤ 4 := by
  unfold rfa
  split
  · exact pf_le _
  · split <;> omega
theorem rowf_le (X : List Pk) (K : Nat) : rowf X K ≤ 100 := by
  have := rfa_le X K
  unfold rowf
  split
  · omega
  · split <;> omega
theorem cfault_le (S G : List Pk) (K : Nat) : cfault S G K ≤ 100 := by
  unfold cfault
  split
  · omega
  · split <;> omega
theorem df_le (a b : Int) : df a b ≤ 6 := by
  unfold df
  split
  · split <;> omega
  · omega
theorem dfault_le (A B : List Int) (K : Nat) : dfault A B K ≤ 100 := by
  have : dfa A B K ≤ 6 := df_le _ _
  unfold dfault
  split
  · omega
  · split
    · omega
    · split
      · omega
      · split <;> omega
/-- under way in the first loop -/
def L1 (X : List Pk) (K i : Nat) (ev av : Int) : Prop := (ev = 0 ∧ av = 0 ∧ i ≤ K ∧ X.length ≤ 1000) ∨ (ev = (rowf X K : Int) ∧ av = (rat X K : Int) ∧ ev ≠ 0)
theorem L1.done {X : List Pk} {K i : Nat} {ev av : Int} (h : L1 X K i ev av) (hK : RStop X K) (hi : ¬ (i < X.length ∧ ev = 0)) : ev = (rowf X K : Int) ∧ av = (rat X K : Int) := by
  rcases h with ⟨h1, h2, h3, h4⟩ | ⟨h1, h2, h3⟩
  · have hk := hK.hk
    have e : K = X.length := by omega
    have r1 : rowf X K = 0 := by unfold rowf; rw [if_neg (by omega), if_neg (by omega)]
    have r2 : rat X K = 0 := by unfold rat; rw [if_neg (by omega), if_neg (by omega)]
    rw [r1, r2]
    exact ⟨h1, h2⟩
  · exact ⟨h1, h2⟩
theorem L1.go {X : List Pk} {K i : Nat} {ev av : Int} (h : L1 X K i ev av) (hK : RStop X K) (hi : i < X.length) (he : ev = 0) : av = 0 ∧ i ≤ K ∧ (rfa X i = 0 → L1 X K (i + 1) 0 0) ∧ (rfa X i ≠ 0 → L1 X K (i + 1) (rfa X i : Int) (i : Int)) := by
  rcases h with ⟨h1, h2, h3, h4⟩ | ⟨h1, h2, h3⟩
  · refine ⟨h2, h3, fun hr => .inl ⟨rfl, rfl, ?_, h4⟩, fun hr => .inr ?_⟩
    · rcases Nat.lt_or_ge i K with h | h
      · exact h
      · have e : K = i := by omega
        have := hK.he (by omega)
        rw [e] at this
        exact absurd hr this
    · have e : K = i := by
        rcases Nat.lt_or_ge i K with h | h
        · exact absurd (hK.hn i h) hr
        · omega
      have r1 : rowf X K = rfa X i := by unfold rowf; rw [if_neg (by omega), if_pos (by omega), e]
      have r2 : rat X K = i := by unfold rat; rw [if_neg (by omega), if_pos (by omega), e]
      rw [r1, r2]
      exact ⟨rfl, rfl, by omega⟩
  · exact absurd he h3
/-- the fault of how many there are -/
def d0 (n m : Nat) : Nat := if 1000 < n ∨ 1000 < m then 4 else if n ≠ m then 3 else if n = 0 then 5 else 0
theorem dfault_d0 {A B : List Int} {K : Nat} (h : d0 A.length B.length ≠ 0) : dfault A B K = d0 A.length B.length := by
  unfold d0 dfault at *
  split
  · rfl
  · rename_i h1
    rw [if_neg h1] at h
    split
    · rfl
    · rename_i h2
      rw [if_neg h2] at h
      split
      · rfl
      · rename_i h3; rw [if_neg h3] at h; omega
theorem dfault_0 {A B : List Int} {K : Nat} (h : d0 A.length B.length = 0) : dfault A B K = (if K < A.length then dfa A B K else 0) ∧ A.length = B.length ∧ 0 < A.length := by
  unfold d0 at h
  split at h
  · omega
  · rename_i h1
    split at h
    · omega
    · rename_i h2
      split at h
      · omega
      · rename_i h3
        unfold dfault
        rw [if_neg h1, if_neg h2, if_neg h3]
        exact ⟨rfl, by omega, by omega⟩
/-- under way in the last loop -/
def L3 (A B : List Int) (K i : Nat) (ev le mo : Int) : Prop := (ev = 0 ∧ d0 A.length B.length = 0 ∧ i ≤ K ∧ mo = mx A B i ∧ (0 < i → le = mn A B i)) ∨ (ev = (dfault A B K : Int) ∧ ev ≠ 0)
theorem L3.start (A B : List Int) (K : Nat) : L3 A B K 0 (d0 A.length B.length : Int) 0 0 := by
  by_cases h : d0 A.length B.length = 0
  · exact .inl ⟨by omega, h, by omega, rfl, fun h => by omega⟩
  · exact .inr ⟨by rw [dfault_d0 h], by omega⟩
theorem L3.done {A B : List Int} {K i : Nat} {ev le mo : Int} (h : L3 A B K i ev le mo) (hK : DStop A B K) (hi : ¬ (i < A.length ∧ ev = 0)) : ev = (dfault A B K : Int) ∧ (ev = 0 → le = least A B K ∧ mo = most A B K) ∧ (ev ≠ 0 → least A B K = 0 ∧ most A B K = 0) := by
  rcases h with ⟨h1, h2, h3, h4, h5⟩ | ⟨h1, h2⟩
  · obtain ⟨e1, e2, e3⟩ := dfault_0 (K := K) h2
    have hk := hK.hk
    have e : K = A.length := by omega
    rw [if_neg (by omega)] at e1
    have ei : i = A.length := by omega
    refine ⟨by rw [e1]; exact h1, fun _ => ?_, fun h => absurd h1 h⟩
    unfold least most
    rw [if_pos e1, if_pos e1, ← ei]
    exact ⟨h5 (by omega), h4⟩
  · refine ⟨h1, fun h => absurd h h2, fun _ => ?_⟩
    unfold least most
    rw [if_neg (by omega), if_neg (by omega)]
    exact ⟨rfl, rfl⟩
/-- what the least and the greatest become -/
def le' (i : Nat) (le dd : Int) : Int := if i = 0 ∨ dd < le then dd else le
def mo' (mo dd : Int) : Int := if mo < dd then dd else mo
theorem L3.go {A B : List Int} {K i : Nat} {ev le mo dd : Int} (h : L3 A B K i ev le mo) (hK : DStop A B K) (hi : i < A.length) (he : ev = 0) (hd : dfa A B i = 0 → dd = B.getD i 0 - A.getD i 0) : L3 A B K (i + 1) (dfa A B i : Int) (le' i le dd) (mo' mo dd) := by
  rcases h with ⟨h1, h2, h3, h4, h5⟩ | ⟨h1, h2⟩
  · obtain ⟨e1, e2, e3⟩ := dfault_0 (K := K) h2
    by_cases hr : dfa A B i = 0
    · have hdd := hd hr
      have hKi : i + 1 ≤ K := by
        rcases Nat.lt_or_ge i K with h | h
        · exact h
        · have e : K = i := by omega
          have := hK.he (by omega)
          rw [e] at this
          exact absurd hr this
      refine .inl ⟨by omega, h2, hKi, ?_, fun _ => ?_⟩
      · simp only [mx]
        unfold mo'
        rw [h4, hdd]
        split <;> omega
      · simp only [mn]
        unfold le'
        rw [hdd]
        have hb := df_ok hr
        by_cases h0 : i = 0
        · subst h0
          rw [if_pos (.inl rfl)]
          simp only [mn]
          omega
        · have hl := h5 (by omega)
          split
          · rename_i h; rcases h with h | h
            · exact absurd h h0
            · omega
          · rename_i h; omega
    · have e : K = i := by
        rcases Nat.lt_or_ge i K with h | h
        · exact absurd (hK.hn i h) hr
        · omega
      rw [if_pos (by omega), e] at e1
      rw [e]
      exact .inr ⟨by rw [e1], by omega⟩
  · exact absurd he h2
/-- the numbers between, in memory, and where the places lie -/
structure HSt (w wr : World) (L : List Int) (v : Value) : Prop where
  below : Below w.heap.size w wr
  own : wr.ownsRow w.heap.size 3 1 v L.length (ic L)
set_option maxHeartbeats 16000000 in
set_option maxRecDepth 100000 in
theorem walk (sa : Option Addr) (sn sc : Nat) (S : List Pk) (ga : Option Addr) (m gc : Nat) (X : List Pk) (aa : Option Addr) (n ac : Nat) (A : List Int) (ba : Option Addr) (bn bc : Nat) (B : List Int) (w : World) (hg : w.cell? ⟨0, 0, none⟩ = some (.iface 76 (.agg #[.pointer (some ⟨1, 29, none⟩)]))) (hS : Came w sa sn sc S) (hX : Came w ga m gc X) (hA : IArg w aa n A) (hB : IArg w ba bn B) :
    Calls Tryd.prog 3 #[.slice sa sn sc, .slice ga m gc, .slice aa n ac, .slice ba bn bc] w fun e w' => e = .returned (.bool true) ∧ Below w.heap.size w w' := by
  obtain ⟨K1, hK1⟩ := rstop_ex X
  obtain ⟨K2, hK2⟩ := stop_ex S X
  obtain ⟨K3, hK3⟩ := dstop_ex A B
  have hml := hX.1.1
  have hm2 := hX.1.2.1
  have hal := hA.2.1
  have hbl := hB.2.1
  have hn2 := hA.2.2
  have hb2 := hB.2.2
  have HG := hidden hg
  have HS := hidden hS
  have HX := hidden hX
  have HA := hidden hA
  have HB := hidden hB
  have HK1 := hidden hK1
  have HK2 := hidden hK2
  have HK3 := hidden hK3
  have CRow := hidden (fun W (hW : Below w.heap.size w W) => row_calls ga m gc X K1 W (hX.1.below hW) hK1)
  have CChk := hidden (fun W (hW : Below w.heap.size w W) => Audit.check_calls sa sn sc S ga m gc X K2 W (hS.1.below hW) hS.2.1 hS.2.2.1 (hX.1.below hW) hK2)
  have CHol := hidden (fun W (hW : Below w.heap.size w W) => holes_calls sa sn sc S ga m gc X K2 W (hS.1.below hW) hS.2.1 hS.2.2.1 (hX.1.below hW) hK2)
  have CPla := hidden (fun W (hW : Below w.heap.size w W) => rplaces_calls sa sn sc S ga m gc X K2 W (hS.1.below hW) (hX.1.below hW) hK2)
  have CDel := hidden (fun W (hW : Below w.heap.size w W) => delay_calls aa n ac A ba bn bc B K3 W (hA.below hW) (hB.below hW) hK3)
  have CT := hidden (fun f W (hf : f ≤ 100) (hW : Below w.heap.size w W) => told_f f W hf (hg_of hg hW))
  have HRl := hidden (rowf_le X K1)
  have HCl := hidden (cfault_le S X K2)
  have HDl := hidden (dfault_le A B K3)
  clear hg hS hX hA hB hK1 hK2 hK3
  obtain ⟨e0, he0⟩ : ∃ e0 : Nat, (if 1000 < m then 4 else 0) = e0 := ⟨_, rfl⟩
  have HE0 := hidden he0
  have HL0 : Hid (L1 X K1 0 (e0 : Int) 0) := by
    unfold Hid
    rw [← he0]
    by_cases h : 1000 < m
    · rw [if_pos h]
      have r1 : rowf X K1 = 4 := by unfold rowf; rw [if_pos (by omega)]
      have r2 : rat X K1 = 0 := by unfold rat; rw [if_pos (by omega)]
      exact .inr ⟨by rw [r1], by rw [r2]; rfl, by decide⟩
    · rw [if_neg h]
      exact .inl ⟨rfl, rfl, by omega, by omega⟩
  clear he0
  go_enter Tryd.func3, Tryd.ntmps3
  go_upto_if 33 with fail
  go_cut [9] from 34 (fun e wx => e = .int .i64 (e0 : Int) ∧ w = wx)
  case first =>
    by_cases h : 1000 < m
    · have d : decide (1000 < (m : Int)) = true := by simp; omega
      have HZ : Hid (e0 = 4) := by rw [← HE0.out, if_pos h]; rfl
      go_wp2_with fail
      go_meet
      exact ⟨by rw [HZ.out]; rfl, rfl⟩
    · have d : decide (1000 < (m : Int)) = false := by simp; omega
      have HZ : Hid (e0 = 0) := by rw [← HE0.out, if_neg h]; rfl
      go_wp2_with fail
      go_meet
      exact ⟨by rw [HZ.out]; rfl, rfl⟩
  case rest =>
  obtain ⟨rfl, rfl⟩ := hcut
  clear HE0
  go_wp2_with fail
  go_loopg [9, 10, 11] m (fun g u9 u10 u11 wr => ∃ (i : Nat) (ev av : Int), i + g = m ∧ u9 = .int .i64 ev ∧ u10 = .int .i64 av ∧ u11 = .int .i64 (i : Int) ∧ Hid (L1 X K1 i ev av) ∧ Hid (Below w.heap.size w wr))
  case atStart => exact ⟨0, (e0 : Int), 0, by omega, rfl, rfl, rfl, HL0, Below.refl _ _⟩
  case round =>
  obtain ⟨i, ev, av, hig, rfl, rfl, rfl, HL, HW⟩ := hrel
  clear HL0
  by_cases hi : i < m ∧ ev = 0
  case pos =>
    obtain ⟨him, rfl⟩ := hi
    have hiz : (i : Int) < (m : Int) := by omega
    have di : decide ((i : Int) < (m : Int)) = true := by simpa using hiz
    obtain ⟨hav, hiK, hgo0, hgo1⟩ := HL.out.go HK1.out (by omega) rfl
    have HGo0 := hidden hgo0
    have HGo1 := hidden hgo1
    subst hav
    obtain ⟨b, o, rfl, hcs⟩ := (HX.out.1.below HW.out).at (by omega)
    obtain ⟨⟨c0, c1, c2, c3, c4, c5⟩, hok⟩ := hcs i him
    have hr : rfa X i = if pf (X.getD i noPk) ≠ 0 then pf (X.getD i noPk) else if 0 < i ∧ (X.getD i noPk).s ≠ ((X.getD (i - 1) noPk).s + 1) % 65536 then 3 else 0 := rfl
    have HPr : Hid (0 < i → 0 ≤ (X.getD (i - 1) noPk).s ∧ (X.getD (i - 1) noPk).s ≤ 65535) := fun h => pf_bd (rfa_pf (HK1.out.hn (i - 1) (by omega)))
    have HCs : Hid (∀ W, Below wr.heap.size wr W → ∀ j, j < m → PkAt W b (o + j * 6) (X.getD j noPk)) := fun W hW j hj => (hcs j hj).1.below hW
    have HCi : Hid (∀ W, Below wr.heap.size wr W → PkAt W b (o + i * 6) (X.getD i noPk)) := fun W hW => (hcs i him).1.below hW
    obtain ⟨p, hp⟩ : ∃ p, X.getD i noPk = p := ⟨_, rfl⟩
    rw [hp] at c0 c1 c2 c3 c4 c5 hok hr HCi
    have HC := hidden (fun W => rpacket_calls p.s p.t p.l p.q p.st p.a p.m p.c W)
    have hpf : fault p.s p.t p.l p.q p.m = pf p := rfl
    rw [hpf] at HC
    clear hp hcs hok hpf hgo0 hgo1 HL
    by_cases h0 : pf p = 0
    case neg =>
      have HR : Hid (rfa X i = pf p) := by rw [hr, if_pos h0]; rfl
      have HL' : Hid (L1 X K1 (i + 1) (pf p : Int) (i : Int)) := by have := HGo1.out (by rw [HR.out]; exact h0); rw [HR.out] at this; exact this
      generalize pf p = fp at *
      have e1 : ((fp : Int) == 0) = false := by simp; omega
      have e2 : ((fp : Int) != 0) = true := by simp; omega
      clear hr h0
      go_wp2_with fail
      refine (HC.out _).mono ?_
      rintro e w1 ⟨rfl, hb⟩
      have HW1 : Hid (Below w.heap.size w w1) := HW.out.trans (hb.mono HW.out.size)
      clear hb c0 c1 c2 c3 c4 c5
      go_wp2_with fail
      go_quiet (fail)
      go_wp2_with fail
      go_roundg (m - (i + 1))
      case measure => omega
      case rel => exact ⟨i + 1, _, _, by omega, rfl, rfl, by go_num, HL', below_drewN' HW1.out _⟩
    case pos =>
    rw [h0] at HC
    rw [h0, if_neg (by simp)] at hr
    clear h0
    go_wp2_with fail
    refine (HC.out _).mono ?_
    rintro e w1 ⟨rfl, hb⟩
    have HW1 : Hid (Below w.heap.size w w1) := HW.out.trans (hb.mono HW.out.size)
    obtain ⟨x0, -, -, -, -, -⟩ := HCi.out w1 hb
    have HCb : Hid (∀ j, j < m → PkAt w1 b (o + j * 6) (X.getD j noPk)) := HCs.out w1 hb
    clear hb c0 c1 c2 c3 c4 c5 HCs HCi HC
    by_cases hi0 : 0 < i
    case neg =>
      have HR : Hid (rfa X i = 0) := by rw [hr, if_neg (by omega)]; rfl
      have HL' := hidden (HGo0.out HR.out)
      have dz : decide ((0 : Int) < (i : Int)) = false := by simp; omega
      have dn : decide (0 < i) = false := by simp; omega
      clear hr
      go_wp2_with fail
      go_quiet (fail)
      go_wp2_with fail
      go_roundg (m - (i + 1))
      case measure => omega
      case rel => exact ⟨i + 1, _, _, by omega, rfl, rfl, by go_num, HL', below_drewN' HW1.out _⟩
    case pos =>
    have dz : decide ((0 : Int) < (i : Int)) = true := by simp; omega
    have dn : decide (0 < i) = true := by simp; omega
    obtain ⟨y0, -, -, -, -, -⟩ := HCb.out (i - 1) (by omega)
    obtain ⟨sp, hsp⟩ : ∃ sp, (X.getD (i - 1) noPk).s = sp := ⟨_, rfl⟩
    have hbd := HPr.out hi0
    rw [hsp] at y0 hr hbd
    have hix : (i : Int) - 1 = ((i - 1 : Nat) : Int) := by omega
    obtain ⟨k, hk⟩ : ∃ k, i - 1 = k := ⟨_, rfl⟩
    rw [hk] at y0 hix
    have hkn : k < m := by omega
    have hwr : IntKind.i64.wrap ((i : Int) - 1) = (k : Int) := by rw [IntKind.wrap_i64]; omega
    obtain ⟨hbd1, hbd2⟩ := hbd
    have htm : (sp + 1).tmod 65536 = (sp + 1) % 65536 := Int.tmod_eq_emod_of_nonneg (by omega)
    by_cases hs : p.s = (sp + 1) % 65536
    case pos =>
      have HR : Hid (rfa X i = 0) := by rw [hr, if_neg (by omega)]; rfl
      have HL' := hidden (HGo0.out HR.out)
      have ds : (p.s != (sp + 1).tmod 65536) = false := by rw [htm]; simpa using hs
      have ds2 : (p.s != (sp + 1) % 65536) = false := by simpa using hs
      clear hs hr hsp hk htm
      go_wp2_with fail
      go_quiet (fail)
      go_wp2_with fail
      go_roundg (m - (i + 1))
      case measure => omega
      case rel => exact ⟨i + 1, _, _, by omega, rfl, rfl, by go_num, HL', below_drewN' HW1.out _⟩
    case neg =>
      have HR : Hid (rfa X i = 3) := by rw [hr, if_pos ⟨hi0, hs⟩]; rfl
      have HL' : Hid (L1 X K1 (i + 1) 3 (i : Int)) := by have := HGo1.out (by rw [HR.out]; decide); rw [HR.out] at this; exact this
      have ds : (p.s != (sp + 1).tmod 65536) = true := by rw [htm]; simpa using hs
      have ds2 : (p.s != (sp + 1) % 65536) = true := by simpa using hs
      clear hs hr hsp hk htm
      go_wp2_with fail
      go_quiet (fail)
      go_wp2_with fail
      go_roundg (m - (i + 1))
      case measure => omega
      case rel => exact ⟨i + 1, _, _, by omega, rfl, rfl, by go_num, HL', below_drewN' HW1.out _⟩
  case neg =>
  have HDn : Hid (ev = (rowf X K1 : Int) ∧ av = (rat X K1 : Int)) := HL.out.done HK1.out (by rw [hml]; exact hi)
  have K6 : Hid (¬ ((i : Int) < (m : Int) ∧ ev = 0)) := by unfold Hid; intro h; exact hi ⟨by omega, h.2⟩
  clear hi HL
  go_upto_region 6 with fail
  go_cut [41] from 34 to 41 (fun s wx => s = .bool false ∧ wr = wx)
  case first =>
    by_cases z1 : (i : Int) < (m : Int)
    · have d1 : decide ((i : Int) < (m : Int)) = true := by simpa using z1
      have z2 : ¬ ev = 0 := fun h => K6.out ⟨z1, h⟩
      have z3 : (ev == 0) = false := by simpa using z2
      go_wp2_with fail
      go_meet
      exact ⟨rfl, rfl⟩
    · have d1 : decide ((i : Int) < (m : Int)) = false := by simpa using z1
      go_wp2_with fail
      go_meet
      exact ⟨rfl, rfl⟩
  case rest =>
  obtain ⟨rfl, rfl⟩ := hcut
  obtain ⟨rfl, rfl⟩ := HDn.out
  clear K6 HDn
  have C1 := hidden (CRow.out wr HW.out)
  generalize rowf X K1 = fr at *
  generalize rat X K1 = ra at *
  clear CRow
  have dra : ((ra : Int) != (ra : Int)) = false := by simp
  go_wp2_with fail
  refine C1.out.mono ?_
  rintro e w2 ⟨rfl, hb⟩
  have HW2 : Hid (Below w.heap.size w w2) := HW.out.trans (hb.mono HW.out.size)
  clear hb HW C1
  have C2 := hidden (CT.out fr w2 HRl.out HW2.out)
  go_wp2_with fail
  refine C2.out.mono ?_
  rintro e w3 ⟨rfl, hb⟩
  have HW3 : Hid (Below w.heap.size w w3) := HW2.out.trans (hb.mono HW2.out.size)
  clear hb HW2 C2
  have C3 := hidden (CPla.out w3 HW3.out)
  have HLk : Hid ((lk S X K2).length ≤ 1000 ∧ (∀ i, i + 1 < (lk S X K2).length → (lk S X K2).getD (i + 1) 0 - (lk S X K2).getD i 0 - 1 = AU.hl S X i ∧ 0 ≤ (lk S X K2).getD i 0 ∧ (lk S X K2).getD i 0 < (lk S X K2).getD (i + 1) 0 ∧ (lk S X K2).getD (i + 1) 0 ≤ 1000) ∧ hk S X K2 = hls S X ((lk S X K2).length - 1)) := by
    unfold Hid lk hk
    by_cases h : cfault S X K2 = 0
    · rw [if_pos h, if_pos h, pls_len]
      have hf : ¬ (1000 < S.length ∨ 1000 < X.length) := fun hc => by rw [cfault_full hc] at h; omega
      have hk2 := HK2.out.hk
      refine ⟨by omega, fun i hi => ?_, rfl⟩
      rw [pls_get S X hi, pls_get S X (by omega)]
      have h1 := pl_nxt S X i
      have h2 := pl_nxt S X (i + 1)
      have h3 := nxt_lt S X (i + 1)
      have h4 := HK2.out.lt hi
      exact ⟨rfl, by omega, by omega, by omega⟩
    · rw [if_neg h, if_neg h]
      refine ⟨by simp, fun i hi => by simp at hi, ?_⟩
      simp [hls]
  go_wp2_with fail
  refine C3.out.mono ?_
  rintro e w4 ⟨lv, rfl, hown, hb⟩
  have HW4 : Hid (Below w.heap.size w w4) := HW3.out.trans (hb.mono HW3.out.size)
  have hl1 := HLk.out.1
  obtain ⟨la, lc, hlv, hLA, -, -, -⟩ := own_ints hown (by omega)
  subst hlv
  have HLA := hidden hLA
  clear hb HW3 C3 hown hLA CPla
  have C4 := hidden (CChk.out w4 HW4.out)
  clear CChk
  generalize cat S X K2 = ca at *
  generalize cfault S X K2 = fc at *
  have dca : ((ca : Int) != (ca : Int)) = false := by simp
  go_wp2_with fail
  refine C4.out.mono ?_
  rintro e w5 ⟨rfl, hb⟩
  have HW5 : Hid (Below w.heap.size w w5) := HW4.out.trans (hb.mono HW4.out.size)
  have HLA5 := hidden (HLA.out.below hb)
  clear hb HW4 C4 HLA
  have C5 := hidden (CT.out fc w5 HCl.out HW5.out)
  go_wp2_with fail
  refine C5.out.mono ?_
  rintro e w6 ⟨rfl, hb⟩
  have HW6 : Hid (Below w.heap.size w w6) := HW5.out.trans (hb.mono HW5.out.size)
  have HLA6 := hidden (HLA5.out.below hb)
  clear hb HW5 C5 HLA5
  obtain ⟨LK, hLK⟩ : ∃ LK, lk S X K2 = LK := ⟨_, rfl⟩
  rw [hLK] at HLk HLA6 hl1
  rw [hLK]
  obtain ⟨Ln, hLn⟩ : ∃ Ln, LK.length = Ln := ⟨_, rfl⟩
  rw [hLn] at HLk HLA6 hl1
  rw [hLn]
  obtain ⟨i0, hii, hz0, hz1, hz2⟩ := info_parts info3
  have HT0 : Hid (TSt w6 w6 (hls S X 0) (.slice none 0 0)) := ⟨Below.refl _ _, World.ownsRow_nil _ _ _ _⟩
  clear hLK hLn
  go_wp2_with fail
  go_loopg [17, 18] Ln (fun g u y wr => ∃ (i : Nat) (v : Value), i + g = Ln ∧ v = u ∧ y = .int .i64 ((i : Int) + 1) ∧ (i < Ln ∨ i = 0) ∧ Hid (TSt w6 wr (hls S X i) v))
  case atStart => exact ⟨0, _, by omega, rfl, rfl, by omega, HT0⟩
  case round =>
  obtain ⟨i, v, hig, rfl, rfl, hiK, HT⟩ := hrel
  clear HT0
  by_cases hi : i + 1 < Ln
  case pos =>
    have hiz : (i : Int) + 1 < (Ln : Int) := by omega
    obtain ⟨b, o, rfl, hcs⟩ := (HLA6.out.below HT.out.below).at (by omega)
    have c1 := hcs (i + 1) hi
    have c0 := hcs i (by omega)
    have hq := HLk.out.2.1 i hi
    have hlen := hls_len S X i
    have hhs := hls_succ S X i
    obtain ⟨p1, hp1⟩ : ∃ p1, LK.getD (i + 1) 0 = p1 := ⟨_, rfl⟩
    obtain ⟨p0, hp0⟩ : ∃ p0, LK.getD i 0 = p0 := ⟨_, rfl⟩
    rw [hp1, hp0] at hq
    rw [hp1] at c1
    rw [hp0] at c0
    obtain ⟨hq1, hq2, hq3, hq4⟩ := hq
    have HH : Hid (AU.hl S X i = p1 - p0 - 1) := hq1.symm
    obtain ⟨j, hj⟩ : ∃ j, i + 1 = j := ⟨_, rfl⟩
    rw [hj] at hp1
    have Hp1 := hidden hp1
    have Hp0 := hidden hp0
    have hij : (i : Int) + 1 = (j : Int) := by omega
    have hjk : j < Ln := by omega
    have hw1 : IntKind.i64.wrap ((j : Int) - 1) = (i : Int) := by rw [IntKind.wrap_i64]; omega
    have hik : i < Ln := by omega
    rw [hij] at hiz ⊢
    rw [hj] at c1
    have hc0 : wr.drew.cell? ⟨b, o + j, none⟩ = some (.int .i64 p1) ∧ wr.drew.cell? ⟨b, o + i, none⟩ = some (.int .i64 p0) := ⟨c1, c0⟩
    have hA1 : (wr.alloc (.cells #[.int .i64 (p1 - p0 - 1)] 3)).drew.cell? ⟨b, o + j, none⟩ = some (.int .i64 p1) := cell_alloc c1 _
    have hA2 : (wr.alloc (.cells #[.int .i64 (p1 - p0 - 1)] 3)).drew.cell? ⟨b, o + i, none⟩ = some (.int .i64 p0) := cell_alloc c0 _
    have HBg : Hid (∀ W, Below w6.heap.size w6 W → W.cell? ⟨b, o + j, none⟩ = some (.int .i64 p1) ∧ W.cell? ⟨b, o + i, none⟩ = some (.int .i64 p0)) := fun W hW => by
      obtain ⟨b', o', e, hcs⟩ := (HLA6.out.below hW).at (by omega)
      simp only [Option.some.injEq, Addr.mk.injEq, and_true] at e
      obtain ⟨rfl, rfl⟩ := e
      have c1' := hcs j hjk
      have c0' := hcs i (by omega)
      rw [Hp1.out] at c1'
      rw [Hp0.out] at c0'
      exact ⟨c1', c0'⟩
    have HAp : Hid (∀ (gg c3 : Nat) w3, World.ownsRow w3 w6.heap.size 3 1 (.slice (some ⟨gg, 0, none⟩) (i + 1) c3) (i + 1) (ic (hls S X i) ++ [.int .i64 (p1 - p0 - 1)]) → (wr.alloc (.cells #[.int .i64 (p1 - p0 - 1)] 3)).drew.grownBy w3 v.ownBlock → TSt w6 w3 (hls S X (i + 1)) (.slice (some ⟨gg, 0, none⟩) (i + 1) c3)) := fun gg c3 w3 hown hgrow => by
      have hs := HT.out.below.size
      refine ⟨((HT.out.below.alloc hs _).drew).grown hgrow (by simp; omega) (fun j hj => (HT.out.own.lt j hj).1), ?_⟩
      rw [hhs, List.length_append, List.length_singleton, hlen, HH.out]
      have e : ic (hls S X i ++ [p1 - p0 - 1]) = ic (hls S X i) ++ [.int .i64 (p1 - p0 - 1)] := by simp [ic]
      rw [e]
      exact hown
    have HOw : Hid (wr.ownsRow w6.heap.size 3 1 v i (ic (hls S X i))) := by have := HT.out.own; rw [hlen] at this; exact this
    have hsz := HT.out.below.size
    have hw2 : IntKind.i64.wrap (p1 - p0) = p1 - p0 := by rw [IntKind.wrap_i64]; omega
    have hw3 : IntKind.i64.wrap (p1 - p0 - 1) = p1 - p0 - 1 := by rw [IntKind.wrap_i64]; omega
    have HIJ := hidden hij
    clear hj hij hlen hhs HH c0 c1 hcs hp1 hp0 hq1
    go_upto_region 26 with fail
    go_region_held3 (fun w' => w'.cell? ⟨b, o + j, none⟩ = some (.int .i64 p1) ∧ w'.cell? ⟨b, o + i, none⟩ = some (.int .i64 p0)) (first | with_reducible assumption | exact ⟨hA1, hA2⟩ | exact HBg.out _ (HAp.out _ _ _ hown hgrow).below | exact (HBg.out _ (HAp.out _ _ _ hown hgrow).below).1 | exact (HBg.out _ (HAp.out _ _ _ hown hgrow).below).2)
      (first
        | (refine step_append_lies _ (by rfl) _ _ _ (by rfl) w6.heap.size 3 i0 _ 1 8 Tryd.underlying23 hii hz0 hz1 hz2 rfl (by omega) _ i (ic (hls S X i)) (by rfl) ((HOw.out.alloc _).drew)
            ⟨wr.heap.size, 0, none⟩ 1 1 [.int .i64 (p1 - p0 - 1)] (by rfl) (by rfl) (World.news_of_block (cs := #[.int .i64 (p1 - p0 - 1)]) (t := 3) (fr := (0, 0)) (heap_alloc_new wr _)) (by simp [Value.oneCell'])
            (by omega) (by unfold maxLen; omega) (by omega) (by simp; omega) (wr.heap.size + 1) (by simp) ?_; intro gg c3 w3 hown hgrow hat hlt))
    have HTn : Hid (TSt w6 w3 (hls S X (i + 1)) (.slice (some ⟨gg, 0, none⟩) (i + 1) c3)) := HAp.out _ _ _ hown hgrow
    clear hown hgrow hat hlt hc0 hA1 hA2
    go_wp2_with fail
    go_roundg (Ln - (i + 1))
    case measure => omega
    case rel => have hij := HIJ.out; exact ⟨i + 1, _, by omega, rfl, by go_num, by omega, HTn⟩
  case neg =>
  have hiz : ¬ (i : Int) + 1 < (Ln : Int) := by omega
  have HHk : Hid (hk S X K2 = hls S X i) := by have := HLk.out.2.2; unfold Hid; rw [this, show Ln - 1 = i by omega]
  have HWr : Hid (Below w.heap.size w wr) := HW6.out.trans (HT.out.below.mono HW6.out.size)
  have C6 := hidden (CHol.out wr HWr.out)
  rw [HHk.out] at C6
  have hli : (hls S X i).length ≤ 1000 := by rw [hls_len]; omega
  obtain ⟨wa, wcp, hwv, hWA, -, -, -⟩ := own_ints HT.out.own (by omega)
  subst hwv
  have HWA := hidden hWA
  generalize hls S X i = HL at *
  clear hWA HT HLA6 HW6 CHol HHk HLk
  go_wp2_with fail
  refine C6.out.mono ?_
  rintro e w7 ⟨hv, rfl, hown, hb⟩
  have HW7 : Hid (Below w.heap.size w w7) := HWr.out.trans (hb.mono HWr.out.size)
  have HWA7 := hidden (HWA.out.below hb)
  obtain ⟨ha, hcp, hhv, hHA, -, -, -⟩ := own_ints hown (by omega)
  subst hhv
  have HHA := hidden hHA
  clear hHA hown hb HWr HWA C6
  have C7 := hidden (CT.out fc w7 HCl.out HW7.out)
  go_wp2_with fail
  refine C7.out.mono ?_
  rintro e w8 ⟨rfl, hb⟩
  have HW8 : Hid (Below w.heap.size w w8) := HW7.out.trans (hb.mono HW7.out.size)
  have C8 := hidden (ints_same ha wa HL.length hcp wcp HL w8 (HHA.out.below hb) (HWA7.out.below hb))
  clear hb HW7 HHA HWA7 C7
  go_wp2_with fail
  refine C8.out.mono ?_
  rintro e w9 ⟨rfl, hb⟩
  have HW9 : Hid (Below w.heap.size w w9) := HW8.out.trans (hb.mono HW8.out.size)
  clear hb HW8 C8
  obtain ⟨e3, he3⟩ : ∃ e3 : Nat, d0 n bn = e3 := ⟨_, rfl⟩
  have HE3 := hidden he3
  have HL30 : Hid (L3 A B K3 0 (e3 : Int) 0 0) := by have := L3.start A B K3; rw [hal, hbl, he3] at this; exact this
  clear he3
  obtain ⟨bf, hbf⟩ : ∃ bf, (decide (1000 < n) || decide (1000 < bn)) = bf := ⟨_, rfl⟩
  have HBf := hidden hbf
  clear hbf
  go_upto_region 31 with fail
  go_cut [151] from 144 to 151 (fun c wx => c = .bool bf ∧ w9 = wx)
  case first =>
    by_cases h : 1000 < n
    · have d : decide (1000 < (n : Int)) = true := by simp; omega
      have HZ : Hid (bf = true) := by rw [← HBf.out, decide_eq_true h]; rfl
      go_wp2_with fail
      go_meet
      exact ⟨by rw [HZ.out], rfl⟩
    · have d : decide (1000 < (n : Int)) = false := by simp; omega
      by_cases h' : 1000 < bn
      · have d' : decide (1000 < (bn : Int)) = true := by simp; omega
        have HZ : Hid (bf = true) := by rw [← HBf.out, decide_eq_false h, decide_eq_true h']; rfl
        go_wp2_with fail
        go_meet
        exact ⟨by rw [HZ.out], rfl⟩
      · have d' : decide (1000 < (bn : Int)) = false := by simp; omega
        have HZ : Hid (bf = false) := by rw [← HBf.out, decide_eq_false h, decide_eq_false h']; rfl
        go_wp2_with fail
        go_meet
        exact ⟨by rw [HZ.out], rfl⟩
  case rest =>
  obtain ⟨rfl, rfl⟩ := hcut
  go_upto_if 151 with fail
  go_cut [9] from 152 to 159 (fun e wx => e = .int .i64 (e3 : Int) ∧ w9 = wx)
  case first =>
    cases bf with
    | true =>
      have HZ : Hid (e3 = 4) := by
        have h := HBf.out
        rw [← HE3.out]
        unfold d0
        rw [if_pos (by simpa using h)]
        rfl
      go_wp2_with fail
      go_meet
      exact ⟨by rw [HZ.out]; rfl, rfl⟩
    | false =>
    have hbf2 : ¬ (1000 < n ∨ 1000 < bn) := by have h := HBf.out; simpa using h
    by_cases h3 : n = bn
    case neg =>
      have d3 : ((n : Int) != (bn : Int)) = true := by simp; omega
      have HZ : Hid (e3 = 3) := by rw [← HE3.out]; unfold d0; rw [if_neg hbf2, if_pos h3]; rfl
      clear hbf2
      go_wp2_with fail
      go_meet
      exact ⟨by rw [HZ.out]; rfl, rfl⟩
    case pos =>
    have d3 : ((n : Int) != (bn : Int)) = false := by simp; omega
    by_cases h4 : n = 0
    case pos =>
      have d4 : ((n : Int) == 0) = true := by simp; omega
      have HZ : Hid (e3 = 5) := by rw [← HE3.out]; unfold d0; rw [if_neg hbf2, if_neg (by omega), if_pos h4]; rfl
      clear hbf2 h3 h4
      go_wp2_with fail
      go_meet
      exact ⟨by rw [HZ.out]; rfl, rfl⟩
    case neg =>
      have d4 : ((n : Int) == 0) = false := by simp; omega
      have HZ : Hid (e3 = 0) := by rw [← HE3.out]; unfold d0; rw [if_neg hbf2, if_neg (by omega), if_neg h4]; rfl
      clear hbf2 h3 h4
      go_wp2_with fail
      go_meet
      exact ⟨by rw [HZ.out]; rfl, rfl⟩
  case rest =>
  obtain ⟨rfl, rfl⟩ := hcut
  clear HBf
  go_wp2_with fail
  go_loopg [9, 22, 23, 24] n (fun g u9 u22 u23 u24 wr => ∃ (i : Nat) (ev le mo : Int), i + g = n ∧ u9 = .int .i64 ev ∧ u22 = .int .i64 le ∧ u23 = .int .i64 mo ∧ u24 = .int .i64 (i : Int) ∧ Hid (L3 A B K3 i ev le mo) ∧ Hid (Below w.heap.size w wr))
  case atStart => exact ⟨0, (e3 : Int), 0, 0, by omega, rfl, rfl, rfl, rfl, HL30, HW9⟩
  case round =>
  obtain ⟨i, ev, le, mo, hig, rfl, rfl, rfl, rfl, HL3, HWr⟩ := hrel
  clear HL30
  by_cases hi : i < n ∧ ev = 0
  case pos =>
    obtain ⟨him, rfl⟩ := hi
    have hiz : (i : Int) < (n : Int) := by omega
    have di : decide ((i : Int) < (n : Int)) = true := by simpa using hiz
    have hnb : n = bn := by
      have h := HL3.out
      rcases h with ⟨_, h2, _⟩ | ⟨_, h2⟩
      · have := (dfault_0 (K := K3) h2).2.1; omega
      · exact absurd rfl h2
    have HGo : Hid (∀ dd, (dfa A B i = 0 → dd = B.getD i 0 - A.getD i 0) → L3 A B K3 (i + 1) (dfa A B i : Int) (le' i le dd) (mo' mo dd)) := fun dd hd => HL3.out.go HK3.out (by omega) rfl hd
    obtain ⟨b1, o1, rfl, hcs1⟩ := (HA.out.below HWr.out).at (by omega)
    obtain ⟨b2, o2, rfl, hcs2⟩ := (HB.out.below HWr.out).at (by omega)
    have c1 := hcs1 i him
    have c2 := hcs2 i (by omega)
    have HD : Hid (dfa A B i = df (A.getD i 0) (B.getD i 0)) := rfl
    have hibn : (i : Int) < (bn : Int) := by omega
    have hib : i < bn := by omega
    generalize dfa A B i = dq at *
    generalize A.getD i 0 = x at *
    generalize B.getD i 0 = y at *
    have HTx := hidden (fun W => rtime_calls x W)
    have HTy := hidden (fun W => rtime_calls y W)
    obtain ⟨bx, hbx⟩ : ∃ bx, decide (0 ≤ x ∧ x ≤ 1000000) = bx := ⟨_, rfl⟩
    obtain ⟨by_, hby⟩ : ∃ by_, decide (0 ≤ y ∧ y ≤ 1000000) = by_ := ⟨_, rfl⟩
    rw [hbx] at HTx
    rw [hby] at HTy
    have HBx := hidden hbx
    have HBy := hidden hby
    obtain ⟨dd, hdd⟩ : ∃ dd, IntKind.i64.wrap (y - x) = dd := ⟨_, rfl⟩
    have HLn : Hid (L3 A B K3 (i + 1) (dq : Int) (le' i le dd) (mo' mo dd)) := HGo.out dd (fun h => by
      rw [HD.out] at h
      have := df_ok h
      rw [← hdd, IntKind.wrap_i64]
      omega)
    clear hcs1 hcs2 hbx hby HL3 HGo hnb
    go_wp2_with fail
    refine (HTx.out _).mono ?_
    rintro e w10 ⟨rfl, rfl⟩
    go_wp2_with fail
    refine (HTy.out _).mono ?_
    rintro e w10 ⟨rfl, rfl⟩
    clear HTx HTy
    obtain ⟨bq, hbq⟩ : ∃ bq, (!bx || !by_) = bq := ⟨_, rfl⟩
    have HBq := hidden hbq
    clear hbq
    go_upto_region 44 with fail
    go_cut [185] from 180 to 185 (fun c wx => c = .bool bq ∧ w10 = wx)
    case first =>
      cases bx with
      | false =>
        have HZ : Hid (bq = true) := by rw [← HBq.out]; rfl
        go_wp2_with fail
        go_meet
        exact ⟨by rw [HZ.out], rfl⟩
      | true =>
        have HZ : Hid (bq = !by_) := by rw [← HBq.out]; rfl
        go_wp2_with fail
        go_meet
        exact ⟨by rw [HZ.out], rfl⟩
    case rest =>
    obtain ⟨rfl, rfl⟩ := hcut
    go_upto_if 185 with fail
    go_cut [9] from 186 to 194 (fun e wx => e = .int .i64 (dq : Int) ∧ Hid (∃ nn, wx = w10.drewN nn))
    case first =>
      cases bq with
      | true =>
        have HZ : Hid (dq = 1) := by
          have h := HBq.out
          have h1 := HBx.out
          have h2 := HBy.out
          rw [HD.out]
          unfold df
          rw [if_neg]
          · rfl
          · intro hc
            rw [decide_eq_true ⟨hc.1, hc.2.1⟩] at h1
            rw [decide_eq_true ⟨hc.2.2.1, hc.2.2.2⟩] at h2
            rw [← h1, ← h2] at h
            simp at h
        go_wp2_with fail
        go_meet
        exact ⟨by rw [HZ.out]; rfl, 0, rfl⟩
      | false =>
      have hin : 0 ≤ x ∧ x ≤ 1000000 ∧ 0 ≤ y ∧ y ≤ 1000000 := by
        have h := HBq.out
        have h1 := HBx.out
        have h2 := HBy.out
        simp only [Bool.or_eq_false_iff, Bool.not_eq_false'] at h
        rw [h.1] at h1
        rw [h.2] at h2
        simp only [decide_eq_true_eq] at h1 h2
        omega
      by_cases hxy : y < x
      · have d5 : decide (y < x) = true := decide_eq_true hxy
        have HZ : Hid (dq = 6) := by rw [HD.out]; unfold df; rw [if_pos hin, if_pos hxy]; rfl
        clear hin
        go_wp2_with fail
        go_quiet (fail)
        go_wp2_with fail
        go_meet
        exact ⟨by rw [HZ.out]; rfl, _, rfl⟩
      · have d5 : decide (y < x) = false := decide_eq_false hxy
        have HZ : Hid (dq = 0) := by rw [HD.out]; unfold df; rw [if_pos hin, if_neg hxy]; rfl
        clear hin
        go_wp2_with fail
        go_quiet (fail)
        go_wp2_with fail
        go_meet
        exact ⟨by rw [HZ.out]; rfl, _, rfl⟩
    case rest =>
    obtain ⟨rfl, HNn⟩ := hcut
    obtain ⟨wa, rfl⟩ : ∃ x, x = wc := ⟨_, rfl⟩
    have HWa : Hid (Below w.heap.size w wa) := by obtain ⟨nn, e⟩ := HNn.out; rw [e]; exact below_drewN' HWr.out nn
    have k1 : wa.cell? ⟨b1, o1 + i, none⟩ = some (.int .i64 x) := by obtain ⟨nn, e⟩ := HNn.out; rw [e]; exact c1
    have k2 : wa.cell? ⟨b2, o2 + i, none⟩ = some (.int .i64 y) := by obtain ⟨nn, e⟩ := HNn.out; rw [e]; exact c2
    clear HNn c1 c2 HWr HBq HD
    go_wp2_with fail
    go_quiet (fail)
    obtain ⟨wb, hwb⟩ : ∃ wb, wa.drewN nq = wb := ⟨_, rfl⟩
    have HWb : Hid (Below w.heap.size w wb) := by rw [← hwb]; exact below_drewN' HWa.out nq
    rw [hwb]
    clear hwb HWa k1 k2
    obtain ⟨bz, hbz⟩ : ∃ bz, (decide (i = 0) || decide (dd < le)) = bz := ⟨_, rfl⟩
    have HBz := hidden hbz
    have HDd := hidden hdd
    clear hbz
    go_upto_region 49 with fail
    go_cut [210] from 204 to 210 (fun c wx => c = .bool bz ∧ wb = wx)
    case first =>
      by_cases h0 : i = 0
      · have e0 : ((i : Int) == 0) = true := by simp; omega
        have HZ : Hid (bz = true) := by rw [← HBz.out, decide_eq_true h0]; rfl
        clear h0
        go_wp2_with fail
        go_meet
        exact ⟨by rw [HZ.out], rfl⟩
      · have e0 : ((i : Int) == 0) = false := by simp; omega
        have HZ : Hid (bz = decide (dd < le)) := by rw [← HBz.out, decide_eq_false h0]; rfl
        clear h0
        go_wp2_with fail
        go_meet
        exact ⟨by rw [HZ.out], rfl⟩
    case rest =>
    obtain ⟨rfl, rfl⟩ := hcut
    have HLe : Hid (le' i le dd = if bz = true then dd else le) := by
      unfold Hid le'
      have h := HBz.out
      by_cases hz : i = 0 ∨ dd < le
      · rw [if_pos hz, if_pos]
        rw [← h]; simpa using hz
      · rw [if_neg hz, if_neg]
        rw [← h]; simpa using hz
    have HMo : Hid (mo' mo dd = if mo < dd then dd else mo) := rfl
    go_upto_if 210 with fail
    go_cut [22] from 211 to 211 (fun x wx => x = .int .i64 (le' i le dd) ∧ wb = wx)
    case first =>
      cases bz with
      | true =>
        have HZ : Hid (le' i le dd = dd) := by rw [HLe.out, if_pos rfl]; rfl
        generalize le' i le dd = lx at *
        go_wp2_with fail
        go_meet
        exact ⟨by rw [HZ.out], rfl⟩
      | false =>
        have HZ : Hid (le' i le dd = le) := by rw [HLe.out, if_neg (by simp)]; rfl
        generalize le' i le dd = lx at *
        go_wp2_with fail
        go_meet
        exact ⟨by rw [HZ.out], rfl⟩
    case rest =>
    obtain ⟨rfl, rfl⟩ := hcut
    generalize le' i le dd = lx at *
    by_cases hm : mo < dd
    · have d6 : decide (mo < dd) = true := decide_eq_true hm
      have HZ : Hid (mo' mo dd = dd) := by rw [HMo.out, if_pos hm]; rfl
      rw [HZ.out] at HLn
      clear HMo HLe hm
      go_wp2_with fail
      go_roundg (n - (i + 1))
      case measure => omega
      case rel => exact ⟨i + 1, _, _, _, by omega, rfl, rfl, rfl, by go_num, HLn, HWb⟩
    · have d6 : decide (mo < dd) = false := decide_eq_false hm
      have HZ : Hid (mo' mo dd = mo) := by rw [HMo.out, if_neg hm]; rfl
      rw [HZ.out] at HLn
      clear HMo HLe hm
      go_wp2_with fail
      go_roundg (n - (i + 1))
      case measure => omega
      case rel => exact ⟨i + 1, _, _, _, by omega, rfl, rfl, rfl, by go_num, HLn, HWb⟩
  case neg =>
  have HDn := hidden (HL3.out.done HK3.out (by rw [hal]; exact hi))
  have K6 : Hid (¬ ((i : Int) < (n : Int) ∧ ev = 0)) := by unfold Hid; intro h; exact hi ⟨by omega, h.2⟩
  clear hi HL3
  go_upto_region 40 with fail
  go_cut [167] from 160 to 167 (fun s wx => s = .bool false ∧ wr = wx)
  case first =>
    by_cases z1 : (i : Int) < (n : Int)
    · have d1 : decide ((i : Int) < (n : Int)) = true := by simpa using z1
      have z2 : ¬ ev = 0 := fun h => K6.out ⟨z1, h⟩
      have z3 : (ev == 0) = false := by simpa using z2
      go_wp2_with fail
      go_meet
      exact ⟨rfl, rfl⟩
    · have d1 : decide ((i : Int) < (n : Int)) = false := by simpa using z1
      go_wp2_with fail
      go_meet
      exact ⟨rfl, rfl⟩
  case rest =>
  obtain ⟨rfl, rfl⟩ := hcut
  clear K6
  go_upto_if 217 with fail
  go_cut [22, 23] from 218 (fun x y wx => x = .int .i64 (least A B K3) ∧ y = .int .i64 (most A B K3) ∧ wr = wx)
  case first =>
    by_cases h0 : ev = 0
    · have e1 : (ev != 0) = false := by simpa using h0
      have HZ := hidden (HDn.out.2.1 h0)
      generalize least A B K3 = ls at *
      generalize most A B K3 = ms at *
      clear h0
      go_wp2_with fail
      go_meet
      exact ⟨by rw [HZ.out.1], by rw [HZ.out.2], rfl⟩
    · have e1 : (ev != 0) = true := by simpa using h0
      have HZ := hidden (HDn.out.2.2 h0)
      generalize least A B K3 = ls at *
      generalize most A B K3 = ms at *
      clear h0
      go_wp2_with fail
      go_meet
      exact ⟨by rw [HZ.out.1], by rw [HZ.out.2], rfl⟩
  case rest =>
  obtain ⟨rfl, rfl, rfl⟩ := hcut
  obtain ⟨rfl, -, -⟩ := HDn.out
  have C9 := hidden (CDel.out wr HWr.out)
  clear HDn CDel
  generalize least A B K3 = ls at *
  generalize most A B K3 = ms at *
  generalize dfault A B K3 = fd at *
  go_wp2_with fail
  refine C9.out.mono ?_
  rintro e w11 ⟨rfl, hb⟩
  have HW11 : Hid (Below w.heap.size w w11) := HWr.out.trans (hb.mono HWr.out.size)
  clear hb C9 HWr
  have C10 := hidden (CT.out fd w11 HDl.out HW11.out)
  go_wp2_with fail
  refine C10.out.mono ?_
  rintro e w12 ⟨rfl, hb⟩
  have HW12 : Hid (Below w.heap.size w w12) := HW11.out.trans (hb.mono HW11.out.size)
  clear hb C10 HW11
  have q1 : (ls == ls) = true := by simp
  have q2 : (ms == ms) = true := by simp
  go_wp2_with fail
  go_ret
  exact ⟨rfl, HW12.out⟩
end Go.Proofs.YtjnkgbdpacdgpaaDoor.ATells

