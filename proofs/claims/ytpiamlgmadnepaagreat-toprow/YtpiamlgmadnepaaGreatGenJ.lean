/-
  What askForStart of package node leaves in memory. Its condition: the node is such as it may be.
-/
import Derived.Test.YtpiamlgmadnepaaGreatGenI
import Derived.Test.YtpiamlgmadnepaaGreatPullE
import Derived.Deep.CutRange
namespace Go.Proofs.YtpiamlgmadnepaaGreat.ND
open Go.ChangeShapes Go.WideShapes Go.ChangeAt Go.RowKit Go.Maps Go.Lib Go.Proofs.YtpiamlgmadnepaaGreat.Mem Go.Proofs.YtpiamlgmadnepaaGreat.NO
set_option linter.unusedVariables false

/-- who subscribes, and the tracks, lie where they lay -/
def DoneP (w w' : World) (o : Nat → Tg) (n b : Nat) (P : NP) (N : Nd) : Prop := ∃ o' P', NAt w' o' n b P' N ∧ (∀ x, (P'.sp x).s = (P.sp x).s) ∧ (∀ i, (P'.tp i).p = (P.tp i).p) ∧ Ext w o o' ∧ Chg o (mine n) w w'
theorem DoneP.done {w w' : World} {o : Nat → Tg} {n b : Nat} {P : NP} {N : Nd} (h : DoneP w w' o n b P N) : Done w w' o n b N := by
  obtain ⟨o', P', h1, _, _, h2, h3⟩ := h
  exact ⟨o', P', h1, h2, h3⟩
theorem nobP {w : World} {b : Nat} {mb : Nat → Nat} {th nw : Int} {td ak : Nat → Int} {L : PU.Wts} (h : Pull.PullAt w b mb th nw td ak L) : Nob w (Pull.pblks b mb) := by
  intro k hk
  rcases List.mem_cons.1 hk with rfl | hk
  · obtain ⟨cs, h1, _⟩ := h.box
    exact nobAt_cells h1 (by decide)
  · obtain ⟨i, hi, rfl⟩ := List.mem_map.1 hk
    obtain ⟨D, h1, _⟩ := h.map i (by simpa using hi)
    obtain ⟨es, clock, hh, _⟩ := h1
    exact nobAt_map ⟨es, clock, hh⟩
theorem NCells.pul {cs : Array Value} {P : NP} {N : Nd} (h : NCells cs P N) (pn : Int) (ak : Nat → Int) (L : PU.Wts) : NCells cs P { N with pn := pn, ak := ak, pL := L } := ⟨h.sz, h.c0, h.c1, h.ct, h.c10, h.c11, h.c12, h.c13⟩
theorem NAt.pull {w w' : World} {o : Nat → Tg} {n b : Nat} {P : NP} {N : Nd} {pn : Int} {ak : Nat → Int} {L : PU.Wts} (h : NAt w o n b P N) (hn : n ≠ 0) (hp : Pull.PullAt w' P.pb P.pm 10 pn (fun _ => -1) ak L) (ho : Only (Pull.pblks P.pb P.pm) w w') :
    NAt w' o n b P { N with pn := pn, ak := ak, pL := L } ∧ Chg o (fun g => g = ⟨n, 2, 0⟩) w w' := by
  have hc : Chg o (fun g => g = ⟨n, 2, 0⟩) w w' := Chg.of_only ho (fun k hk => h.put k hk) (nobP h.pul)
  have he := Ext.refl w o
  have h0 : ∀ g : Tg, g = ⟨n, 2, 0⟩ → g.n ≠ 0 := by rintro g rfl; exact hn
  obtain ⟨cs, k1, k2⟩ := h.box' hc (by simp)
  refine ⟨⟨⟨cs, k1, k2.pul _ _ _⟩, h.tag, fun i hi t ht => h.trs' hc he hi (by simp) t ht, h.sbm' hc (by simp), h.smt, fun x hx => h.sbs' hc he h0 hx (by simp), hp, h.put, h.ltr' hc he h0 (by simp), h.ltt⟩, hc⟩
set_option maxHeartbeats 4000000 in
set_option maxRecDepth 100000 in
theorem askS_calls (nn n b k : Nat) (o : Nat → Tg) (P : NP) (N : Nd) (t : Tr) (x : Int) (s : Sb) (now : Int) (w : World) (hn : n ≠ 0) (hN : NAt w o n b P N) (hK : NdOk nn N) (hx : (x, s) ∈ N.sb) (hk : k < 8) (hs : s.tk = (k : Int) + 1) (ht : N.tr k = some t) (hw : s.wants = true) (h0 : N.pn ≤ now) (h1 : now ≤ 1000000) (hl : N.lt.length ≤ 1000) :
    Calls Tryz.prog 121 #[.pointer (some ⟨b, 0, none⟩), .pointer (some ⟨(P.sp x).s, 0, none⟩), .int .i64 now] w fun e w' => e = .returned (.tuple #[]) ∧ DoneP w w' o n b P (N.askS now s) := by
  have hat : N.at s.tk = some t := by unfold Nd.at; rw [hs, show ((k : Int) + 1 - 1).toNat = k by omega]; exact ht
  obtain ⟨mo0, mo1⟩ := (hK.si.mem (x, s) hx).2.2
  simp only at mo0 mo1
  have hid := hK.id
  -- cells, wherever the node is as it was but for its Pull and letters
  have HCe : Hid (∀ W oW PW (NW : Nd), NAt W oW n b PW NW → NW.id = N.id → NW.tr = N.tr → NW.sb = N.sb → (∀ x, (PW.sp x).s = (P.sp x).s) → (∀ i, (PW.tp i).p = (P.tp i).p) → PW.pb = P.pb → W.cell? ⟨b, 1, none⟩ = some (.int .i64 N.id) ∧ W.cell? ⟨b, 12, none⟩ = some (.pointer (some ⟨P.pb, 0, none⟩)) ∧ W.cell? ⟨(P.sp x).s, 0, none⟩ = some (.int .i64 ((k : Int) + 1)) ∧ W.cell? ⟨(P.sp x).s, 1, none⟩ = some (.int .i64 s.mo) ∧ W.cell? ⟨b, 2 + k, none⟩ = some (.pointer (some ⟨(P.tp k).p, 0, none⟩)) ∧ W.cell? ⟨(P.tp k).p, 2, none⟩ = some (.int .i64 t.pa)) := by
    refine hidden ?_
    intro W oW PW NW g e1 e2 e3 e4 e5 e6
    obtain ⟨_, c1, _, _, c12, _⟩ := g.cells
    have bx := (g.sbs (x, s) (by rw [e3]; exact hx)).1.box
    have ct := g.track hk
    have bt := (g.trs k hk t (by rw [e2]; exact ht)).1.box
    rw [e1] at c1
    rw [e6] at c12
    rw [e4] at bx
    rw [e2, ht] at ct
    simp only [tpv] at ct
    rw [e5] at ct bt
    refine ⟨c1, c12, ?_, ?_, ct, ?_⟩
    · rw [← hs]; simp [World.cell?, bx]
    · simp [World.cell?, bx]
    · simp [World.cell?, bt]
  obtain ⟨R, hRes⟩ : ∃ R, N.askS now s = R := ⟨_, rfl⟩
  rw [hRes]
  have hRe : N.askS now s = if s.wants = false ∨ t.pa = -1 then N else { N with pn := PU.aN (PU.put N.pL ⟨N.id, s.tk, s.mo⟩) N.pn s.tk now, ak := PU.aK (PU.put N.pL ⟨N.id, s.tk, s.mo⟩) 10 N.pn N.ak s.tk now, pL := PU.put N.pL ⟨N.id, s.tk, s.mo⟩, lt := N.lt ++ (if PU.aB (PU.put N.pL ⟨N.id, s.tk, s.mo⟩) 10 N.pn N.ak s.tk now = true then [(t.pa, Back.ebytes 2 s.tk [] s.mo)] else []) } := by
    unfold Nd.askS
    rw [hat]
  rw [hRes] at hRe
  have hk3 : wrap64 ((k : Int) + 1 - 1) = (k : Int) := by unfold wrap64; omega
  have hk5 : wrap64 (k : Int) = (k : Int) := by unfold wrap64; omega
  have hk4 : (k : Int) < 8 := by omega
  by_cases hpa : t.pa = -1
  · rw [if_pos (.inr hpa)] at hRe
    rw [hRe]
    obtain ⟨c1, c12, s0, s1, ct, cp⟩ := HCe.out w o P N hN rfl rfl rfl (fun _ => rfl) (fun _ => rfl) rfl
    rw [hpa] at cp
    have HD : Hid (∀ j, DoneP w (w.drewN j) o n b P N) := hidden fun j => ⟨o, P, hN.below (below_drewN' (Below.refl _ _)), fun _ => rfl, fun _ => rfl, Ext.refl _ _, Chg.of_below (below_drewN' (Below.refl _ _)) _ _⟩
    clear hN hK hx hs ht hw hat HCe hRes hRe hpa c1 c12 s1 hl hid
    obtain ⟨sb, hsb⟩ : ∃ sb, (P.sp x).s = sb := ⟨_, rfl⟩
    rw [hsb] at s0 ⊢
    obtain ⟨pp, hpp⟩ : ∃ pp, (P.tp k).p = pp := ⟨_, rfl⟩
    rw [hpp] at ct cp
    clear hsb hpp
    go_enter Tryz.func121, Tryz.ntmps121
    go_wp2_with fail
    go_quiet (fail)
    go_wp2_with fail
    (try simp only [Exit.inBlock, Exit.then])
    refine bodyPost_ret (results_none rfl _ _ _) rfl ?_
    exact ⟨rfl, HD.out _⟩
  · rw [if_neg (by rw [hw]; simp [hpa])] at hRe
    have hput : Pull.Wanted N.pL N.id s.tk s.mo (PU.put N.pL ⟨N.id, s.tk, s.mo⟩) ∧ PU.wf N.id s.tk s.mo = 0 := by
      have hwf : PU.wf N.id s.tk s.mo = 0 := by unfold PU.wf; rw [if_pos (by rw [hs]; omega)]
      exact ⟨⟨fun _ => Pull.puts_put _ _, fun h => absurd hwf h⟩, hwf⟩
    have hpl := pl_len hK.pl hK.pw
    have hPI : PU.Inv (PU.put N.pL ⟨N.id, s.tk, s.mo⟩) := PU.inv_put hK.pl (PU.wf_zero.1 hput.2)
    have hpl2 : (PU.put N.pL ⟨N.id, s.tk, s.mo⟩).length ≤ 8 := pl_len (a := N.id) hPI (by
      intro y hy
      rcases PU.mem_put.1 hy with h | rfl
      · exact hK.pw y h.1
      · rfl)
    obtain ⟨L2, hL2⟩ : ∃ L2, PU.put N.pL ⟨N.id, s.tk, s.mo⟩ = L2 := ⟨_, rfl⟩
    rw [hL2] at hput hPI hpl2 hRe
    have haf : PU.af L2 N.pn s.tk now = 0 := by
      unfold PU.af
      rw [if_neg (by rw [hs]; omega), if_neg (by rw [show PU.tf N.pn now = 0 by unfold PU.tf; rw [if_neg (by have := hK.pn.1; omega), if_neg (by omega)]]; simp), if_neg]
      have := (PU.need_spec L2 s.tk).2.1 ⟨N.id, s.tk, s.mo⟩ (by rw [← hL2]; exact PU.mem_put.2 (.inr rfl)) rfl
      simp only at this
      omega
    obtain ⟨c1, c12, s0, s1, ct, cp⟩ := HCe.out w o P N hN rfl rfl rfl (fun _ => rfl) (fun _ => rfl) rfl
    have HA := hidden hK.ak
    -- behind Want
    have HW : Hid (∀ W, (∃ j, W = w.drewN j) → Calls Tryz.prog 156 #[.pointer (some ⟨P.pb, 0, none⟩), .int .i64 N.id, .int .i64 ((k : Int) + 1), .int .i64 s.mo] W fun e w' => e = .returned .nilIface ∧ (w'.cell? ⟨b, 1, none⟩ = some (.int .i64 N.id) ∧ w'.cell? ⟨b, 12, none⟩ = some (.pointer (some ⟨P.pb, 0, none⟩)) ∧ w'.cell? ⟨(P.sp x).s, 0, none⟩ = some (.int .i64 ((k : Int) + 1)) ∧ w'.cell? ⟨(P.sp x).s, 1, none⟩ = some (.int .i64 s.mo)) ∧ Hid (NAt w' o n b P { N with pL := L2 } ∧ Chg o (mine n) w w')) := by
      refine hidden ?_
      rintro W ⟨j, rfl⟩
      have hNW : NAt (w.drewN j) o n b P N := hN.below (below_drewN' (Below.refl _ _))
      have C := Pull.want_calls P.pb P.pm 10 N.pn N.id ((k : Int) + 1) s.mo (fun _ => -1) N.ak N.pL L2 (w.drewN j) hNW.pul hK.pl (by omega) (by rw [← hs]; exact hput.1)
      rw [show PU.wf N.id ((k : Int) + 1) s.mo = 0 by rw [← hs]; exact hput.2] at C
      refine C.mono ?_
      rintro e w' ⟨rfl, g1, g2⟩
      obtain ⟨q1, q2⟩ := hNW.pull hn g1 g2
      obtain ⟨d1, d12, d0, d1', _, _⟩ := HCe.out w' o P _ q1 rfl rfl rfl (fun _ => rfl) (fun _ => rfl) rfl
      exact ⟨rfl, ⟨d1, d12, d0, d1'⟩, hidden ⟨q1, (Chg.of_below (below_drewN' (Below.refl _ _)) o _).trans' (chg_mine q2)⟩⟩
    -- behind Ask
    have HK2 : Hid (∀ W, NAt W o n b P { N with pL := L2 } → Chg o (mine n) w W → Calls Tryz.prog 157 #[.pointer (some ⟨P.pb, 0, none⟩), .int .i64 ((k : Int) + 1), .int .i64 now] W fun e w' => e = .returned (.tuple #[.bool (PU.aB L2 10 N.pn N.ak s.tk now), .nilIface]) ∧ (w'.cell? ⟨b, 12, none⟩ = some (.pointer (some ⟨P.pb, 0, none⟩)) ∧ w'.cell? ⟨(P.sp x).s, 0, none⟩ = some (.int .i64 ((k : Int) + 1)) ∧ w'.cell? ⟨(P.sp x).s, 1, none⟩ = some (.int .i64 s.mo)) ∧ Hid (NAt w' o n b P { N with pn := PU.aN L2 N.pn s.tk now, ak := PU.aK L2 10 N.pn N.ak s.tk now, pL := L2 } ∧ Chg o (mine n) w w')) := by
      refine hidden ?_
      intro W hNW hcW
      have C := Pull.ask_calls P.pb P.pm 10 N.pn ((k : Int) + 1) now (fun _ => -1) N.ak L2 W hNW.pul hPI HA.out (by omega)
      rw [← hs, haf] at C
      rw [← hs]
      refine C.mono ?_
      rintro e w' ⟨rfl, g1, g2⟩
      obtain ⟨q1, q2⟩ := hNW.pull hn g1 g2
      obtain ⟨_, d12, d0, d1', _, _⟩ := HCe.out w' o P _ q1 rfl rfl rfl (fun _ => rfl) (fun _ => rfl) rfl
      rw [← hs] at d0
      exact ⟨rfl, ⟨d12, d0, d1'⟩, hidden ⟨q1, hcW.trans' (chg_mine q2)⟩⟩
    -- behind sayUp
    have HU : Hid (∀ W, NAt W o n b P { N with pn := PU.aN L2 N.pn s.tk now, ak := PU.aK L2 10 N.pn N.ak s.tk now, pL := L2 } → Chg o (mine n) w W → PU.aB L2 10 N.pn N.ak s.tk now = true → Calls Tryz.prog 152 #[.pointer (some ⟨b, 0, none⟩), .pointer (some ⟨(P.tp k).p, 0, none⟩), .agg #[.int .i64 2, .int .i64 ((k : Int) + 1), .slice none 0 0, .int .i64 s.mo]] W fun e w' => e = .returned (.tuple #[]) ∧ (w'.cell? ⟨(P.sp x).s, 0, none⟩ = some (.int .i64 ((k : Int) + 1)) ∧ w'.cell? ⟨(P.sp x).s, 1, none⟩ = some (.int .i64 s.mo)) ∧ Hid (DoneP w w' o n b P R)) := by
      refine hidden ?_
      intro W hNW hcW hB
      have C := sayUp_calls n b k o P _ t 2 ((k : Int) + 1) s.mo none 0 0 [] W hn hNW hk ht hpa ⟨fun j hj => absurd hj (by simp), rfl, by omega⟩ (fun _ => ⟨rfl, rfl⟩) (by
        unfold Back.efault Back.cfault Back.most
        rw [if_pos (by
          rw [if_neg (by simp; omega)]
          decide)]
        rfl) (by
        unfold Back.ebytes Back.tail
        rw [Back.prs_nil]
        simp [Back.be_len, Back.pbytes]) (by show N.lt.length ≤ _; omega)
      refine C.mono ?_
      rintro e w' ⟨rfl, o', lv, q1, q2, q3⟩
      obtain ⟨_, _, d0, d1', _, _⟩ := HCe.out w' o' { P with lv := lv } _ q1 rfl rfl rfl (fun _ => rfl) (fun _ => rfl) rfl
      refine ⟨rfl, ⟨d0, d1'⟩, hidden ⟨o', { P with lv := lv }, ?_, fun _ => rfl, fun _ => rfl, extG q2 hcW, hcW.trans' (lets_mine q3)⟩⟩
      rw [← hs] at q1
      rw [hRe, if_pos hB]
      exact q1
    have HN0 : Hid (∀ W, NAt W o n b P { N with pn := PU.aN L2 N.pn s.tk now, ak := PU.aK L2 10 N.pn N.ak s.tk now, pL := L2 } → Chg o (mine n) w W → PU.aB L2 10 N.pn N.ak s.tk now = false → DoneP w W o n b P R) := by
      refine hidden ?_
      intro W hNW hcW hB
      refine ⟨o, P, ?_, fun _ => rfl, fun _ => rfl, Ext.refl _ _, hcW⟩
      rw [hRe, if_neg (by rw [hB]; simp), List.append_nil]
      exact hNW
    obtain ⟨NA, hNA⟩ : ∃ NA : Nd, { N with pL := L2 } = NA := ⟨_, rfl⟩
    obtain ⟨NB, hNB⟩ : ∃ NB : Nd, { N with pn := PU.aN L2 N.pn s.tk now, ak := PU.aK L2 10 N.pn N.ak s.tk now, pL := L2 } = NB := ⟨_, rfl⟩
    rw [hNA] at HW HK2
    rw [hNB] at HK2 HU HN0
    obtain ⟨sb, hsb⟩ : ∃ sb, (P.sp x).s = sb := ⟨_, rfl⟩
    obtain ⟨pp, hpp⟩ : ∃ pp, (P.tp k).p = pp := ⟨_, rfl⟩
    obtain ⟨pb, hpb⟩ : ∃ pb, P.pb = pb := ⟨_, rfl⟩
    obtain ⟨id, hidd⟩ : ∃ id, N.id = id := ⟨_, rfl⟩
    obtain ⟨mo, hmo⟩ : ∃ mo, s.mo = mo := ⟨_, rfl⟩
    obtain ⟨pa, hpa'⟩ : ∃ pa, t.pa = pa := ⟨_, rfl⟩
    obtain ⟨aB, haB⟩ : ∃ aB, PU.aB L2 10 N.pn N.ak s.tk now = aB := ⟨_, rfl⟩
    rw [hsb] at HW HK2 HU s0 s1 ⊢
    rw [hpp] at HU ct cp
    rw [hpb] at HW HK2 c12
    rw [hidd] at HW c1
    rw [hmo] at HW HK2 HU s1
    rw [hpa'] at cp hpa
    rw [haB] at HK2 HU HN0
    have e1 : (pa == -1) = false := by simpa using hpa
    clear hN hK hx hs ht hw hat HCe hRes hl hput hPI hpl hpl2 haf hL2 HA hNA hNB hsb hpp hpb hidd hmo hpa' haB hRe mo0 mo1 hid hpa
    go_enter Tryz.func121, Tryz.ntmps121
    go_upto_region 0 with fail
    go_cut [6] from 10 to 19 (fun x6 wx => x6 = .pointer (some ⟨pp, 0, none⟩) ∧ Hid (∃ j, wx = w.drewN j))
    case first =>
      go_wp2_with fail
      go_quiet (fail)
      go_wp2_with fail
      go_meet
      exact ⟨rfl, hidden ⟨_, rfl⟩⟩
    case rest =>
      obtain ⟨rfl, HJ⟩ := hcut
      obtain ⟨wA, rfl⟩ : ∃ z, z = wc := ⟨_, rfl⟩
      have CW := hidden (fun W (hW : ∃ j, W = wA.drewN j) => HW.out W (by
        obtain ⟨j, rfl⟩ := hW
        obtain ⟨i, hi⟩ := HJ.out
        exact ⟨i + j, by rw [hi, World.drewN_drewN]⟩))
      obtain ⟨a1, a12, b0, b1, ap⟩ : wA.cell? ⟨b, 1, none⟩ = some (.int .i64 id) ∧ wA.cell? ⟨b, 12, none⟩ = some (.pointer (some ⟨pb, 0, none⟩)) ∧ wA.cell? ⟨sb, 0, none⟩ = some (.int .i64 ((k : Int) + 1)) ∧ wA.cell? ⟨sb, 1, none⟩ = some (.int .i64 mo) ∧ wA.cell? ⟨pp, 2, none⟩ = some (.int .i64 pa) := by
        obtain ⟨i, hi⟩ := HJ.out
        rw [hi]
        exact ⟨c1, c12, s0, s1, cp⟩
      have S0 : wA.drew.cell? ⟨b, 1, none⟩ = some (.int .i64 id) ∧ wA.drew.cell? ⟨b, 12, none⟩ = some (.pointer (some ⟨pb, 0, none⟩)) ∧ wA.drew.cell? ⟨sb, 0, none⟩ = some (.int .i64 ((k : Int) + 1)) ∧ wA.drew.cell? ⟨sb, 1, none⟩ = some (.int .i64 mo) := ⟨a1, a12, b0, b1⟩
      have CW1 := hidden (CW.out wA.drew ⟨1, rfl⟩)
      clear HW CW c1 c12 s0 s1 ct cp HJ
      go_upto_region 2 with fail
      go_region_held3 (fun w' => w'.cell? ⟨b, 1, none⟩ = some (.int .i64 id) ∧ w'.cell? ⟨b, 12, none⟩ = some (.pointer (some ⟨pb, 0, none⟩)) ∧ w'.cell? ⟨sb, 0, none⟩ = some (.int .i64 ((k : Int) + 1)) ∧ w'.cell? ⟨sb, 1, none⟩ = some (.int .i64 mo)) (with_reducible assumption) (first | (go_at_call 156; refine CW1.out.mono ?_; rintro e w4 ⟨rfl, hS4, HD4⟩))
      obtain ⟨d1, d12, d0, d1'⟩ := hS4
      have CK := hidden (HK2.out w4.drew (HD4.out.1.below ((Below.refl _ _).drew)) (HD4.out.2.trans' (Chg.of_below ((Below.refl _ _).drew) _ _)))
      have S1 : w4.drew.cell? ⟨b, 12, none⟩ = some (.pointer (some ⟨pb, 0, none⟩)) ∧ w4.drew.cell? ⟨sb, 0, none⟩ = some (.int .i64 ((k : Int) + 1)) ∧ w4.drew.cell? ⟨sb, 1, none⟩ = some (.int .i64 mo) := ⟨d12, d0, d1'⟩
      clear HK2 a1 a12 b0 b1 ap S0 CW1 HD4
      go_upto_region 4 with fail
      go_region_held3 (fun w' => w'.cell? ⟨b, 12, none⟩ = some (.pointer (some ⟨pb, 0, none⟩)) ∧ w'.cell? ⟨sb, 0, none⟩ = some (.int .i64 ((k : Int) + 1)) ∧ w'.cell? ⟨sb, 1, none⟩ = some (.int .i64 mo)) (with_reducible assumption) (first | (go_at_call 157; refine CK.out.mono ?_; rintro e w5 ⟨rfl, hS5, HD5⟩))
      obtain ⟨f12, f0, f1⟩ := hS5
      clear CK S1 d1 d12 d0 d1'
      cases aB with
      | false =>
        have HDn := hidden (HN0.out w5 HD5.out.1 HD5.out.2 rfl)
        clear HU HN0 HD5
        go_wp2_with fail
        go_end0
        exact ⟨rfl, HDn.out⟩
      | true =>
        have CU := hidden (HU.out w5.drew (HD5.out.1.below ((Below.refl _ _).drew)) (HD5.out.2.trans' (Chg.of_below ((Below.refl _ _).drew) _ _)) rfl)
        have S2 : w5.drew.cell? ⟨sb, 0, none⟩ = some (.int .i64 ((k : Int) + 1)) ∧ w5.drew.cell? ⟨sb, 1, none⟩ = some (.int .i64 mo) := ⟨f0, f1⟩
        clear HU HN0 HD5
        go_upto_region 6 with fail
        go_region_held3 (fun w' => w'.cell? ⟨sb, 0, none⟩ = some (.int .i64 ((k : Int) + 1)) ∧ w'.cell? ⟨sb, 1, none⟩ = some (.int .i64 mo)) (with_reducible assumption) (first | (go_at_call 152; refine CU.out.mono ?_; rintro e w6 ⟨rfl, hS6, HD6⟩))
        go_wp2_with fail
        go_end0
        exact ⟨rfl, HD6.out⟩
end Go.Proofs.YtpiamlgmadnepaaGreat.ND

