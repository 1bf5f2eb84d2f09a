/-
  What Now, Flying, letOut, Lose and Twice of package mesh return, and what they leave in memory. Their condition: the lofts are such as they may be.
-/
import Derived.Test.YtpiamlgmadnepaaGreatMeshH
import Derived.Deep.LoopGhost
import Derived.Deep.RegionHeld3
namespace Go.Proofs.YtpiamlgmadnepaaGreat.MS
open Go.ChangeShapes Go.WideShapes Go.ChangeAt Go.RowKit Go.Maps Go.Proofs.YtpiamlgmadnepaaGreat.Mem Go.Proofs.YtpiamlgmadnepaaGreat.NO Go.Proofs.YtpiamlgmadnepaaGreat.ND
set_option linter.unusedVariables false

theorem cnow_calls (x : Int) (w : World) : Calls Tryz.prog 93 #[.agg #[.int .i64 x]] w fun e w' => e = .returned (.int .i64 x) ∧ Below w.heap.size w w' := by
  go_enter Tryz.func93, Tryz.ntmps93
  go_wp2_with fail
  go_ret
  exact ⟨rfl, (Below.refl _ _).alloc (Nat.le_refl _) _⟩
theorem now_calls (b : Nat) (o : Nat → Tg) (P : MP) (M : Ms) (w : World) (h : MAt w o b P M) : Calls Tryz.prog 46 #[.pointer (some ⟨b, 0, none⟩)] w fun e w' => e = .returned (.int .i64 M.nw) ∧ Below w.heap.size w w' := by
  have c0 := h.cells.1
  obtain ⟨x, hx⟩ : ∃ x, M.nw = x := ⟨_, rfl⟩
  rw [hx] at c0 ⊢
  have C := hidden (cnow_calls x)
  clear h hx
  go_enter Tryz.func46, Tryz.ntmps46
  go_wp2_with fail
  refine (C.out _).mono ?_
  rintro e w1 ⟨rfl, hb⟩
  have HB := hidden hb
  clear hb
  go_wp2_with fail
  go_ret
  exact ⟨rfl, HB.out⟩
theorem flying_calls (b : Nat) (o : Nat → Tg) (P : MP) (M : Ms) (w : World) (h : MAt w o b P M) : Calls Tryz.prog 60 #[.pointer (some ⟨b, 0, none⟩)] w fun e w' => e = .returned (.int .i64 (M.fl.length : Int)) ∧ w' = w := by
  have c12 := h.cells.2.2.2.2
  obtain ⟨X, hX1, hX2, _⟩ := h.fly
  obtain ⟨a, c, hv⟩ := hX2.form
  rw [hv] at c12
  have e : X.length = M.fl.length := by rw [← hX1, List.length_map]
  rw [e] at c12
  obtain ⟨n, hn⟩ : ∃ n, M.fl.length = n := ⟨_, rfl⟩
  rw [hn] at c12 ⊢
  clear h hX1 hX2 hv e hn
  go_enter Tryz.func60, Tryz.ntmps60
  go_wp2_with fail
  go_ret
  exact ⟨rfl, rfl⟩
theorem npt_get (f : Nat → Nat) (n i : Nat) (h : i < n) : (npt f n)[i]? = some (.pointer (some ⟨f i, 0, none⟩)) := by
  unfold npt
  rw [List.getElem?_map, List.getElem?_range h]
  rfl
/-- where the pointer to a node lies -/
theorem MAt.nptr {w : World} {o : Nat → Tg} {b : Nat} {P : MP} {M : Ms} (h : MAt w o b P M) {i : Nat} (hi : i < M.n) : ∃ rb c, P.nv = .slice (some ⟨rb, 0, none⟩) M.n c ∧ ∀ j, j < M.n → w.cell? ⟨rb, j, none⟩ = some (.pointer (some ⟨P.nb j, 0, none⟩)) := by
  have hr := h.nrow
  rcases hr.2 with ⟨_, h0⟩ | ⟨g, cap, cur, e, _, hg, _, _, _, ht⟩
  · omega
  · refine ⟨g, cap, e, fun j hj => ?_⟩
    have := hr.cells (g := g) (by rw [e]; rfl) j _ (npt_get P.nb M.n j hj)
    rwa [Addr.add_lit, Nat.zero_add] at this
def Ms.out (M : Ms) (i : Nat) : Ms := { M with nd := updN M.nd i { M.nd i with lt := [] }, fl := M.fl ++ (M.nd i).lt.map fun l => ⟨(i : Int), l.1, l.2⟩ }
/-- letters under way -/
def MDoneP (w w' : World) (o : Nat → Tg) (b : Nat) (P : MP) (M : Ms) : Prop := ∃ o' P', MAt w' o' b P' M ∧ Keep w o o' ∧ Chg o meshy w w' ∧ P'.nv = P.nv ∧ P'.nb = P.nb
theorem MDoneP.done {w w' : World} {o : Nat → Tg} {b : Nat} {P : MP} {M : Ms} (h : MDoneP w w' o b P M) : MDone w w' o b M := by
  obtain ⟨o', P', h1, h2, h3, _⟩ := h
  exact ⟨o', P', h1, h2, h3⟩
def LSt (w wr : World) (o : Nat → Tg) (b : Nat) (P : MP) (M : Ms) (i : Nat) (lv : Value) (j : Nat) : Prop := ∃ oj Pj, MAt wr oj b Pj { M with nd := updN M.nd i { M.nd i with lt := [] }, fl := M.fl ++ ((M.nd i).lt.take j).map fun l => ⟨(i : Int), l.1, l.2⟩ } ∧ Keep w o oj ∧ Chg o meshy w wr ∧ LetAt wr oj lv (M.nd i).lt ∧ Own oj nobody lv.ownBlock.toList ∧ Pj.nv = P.nv ∧ Pj.nb = P.nb
theorem let_cells {w : World} {o : Nat → Tg} {lv : Value} {G : List (Int × List Nat)} (h : LetAt w o lv G) {j : Nat} (hj : j < G.length) : ∃ lb c, lv = .slice (some ⟨lb, 0, none⟩) G.length c ∧ ∃ a m cc, w.cell? ⟨lb, j * 2, none⟩ = some (.int .i64 G[j].1) ∧ w.cell? ⟨lb, j * 2 + 1, none⟩ = some (.slice a m cc) ∧ BodyAt w o (.slice a m cc) G[j].2 ∧ Cap (.slice a m cc) := by
  obtain ⟨X, h1, h2, h3⟩ := h
  have hl : X.length = G.length := by rw [← h1, List.length_map]
  have hjX : j < X.length := by omega
  rcases h2.2 with ⟨_, h0⟩ | ⟨g, cap, cur, e, _, hg, _, _, _, ht⟩
  · omega
  · have hx : X[j].1 = G[j] := by
      have : (X.map Prod.fst)[j]? = some X[j].1 := by rw [List.getElem?_map, List.getElem?_eq_getElem hjX]; rfl
      rw [h1, List.getElem?_eq_getElem hj] at this
      exact (Option.some.inj this).symm
    obtain ⟨q1, q2⟩ := h3 X[j] (List.getElem_mem hjX)
    have q1' := q1
    obtain ⟨a, m, cc, ev, _⟩ := q1'
    have hc := h2.cells (g := g) (by rw [e]; rfl)
    have hget : ∀ (Y : List ((Int × List Nat) × Value)) (k : Nat) (y : (Int × List Nat) × Value), Y[k]? = some y → (Y.flatMap fun x => [Value.int .i64 x.1.1, x.2])[k * 2]? = some (.int .i64 y.1.1) ∧ (Y.flatMap fun x => [Value.int .i64 x.1.1, x.2])[k * 2 + 1]? = some y.2 := by
      intro Y
      induction Y with
      | nil => intro k y hy; simp at hy
      | cons z Y ih =>
        intro k y hy
        cases k with
        | zero =>
          rw [List.getElem?_cons_zero] at hy
          cases hy
          exact ⟨rfl, rfl⟩
        | succ k =>
          have := ih k y (by simpa using hy)
          rw [List.flatMap_cons, show (k + 1) * 2 = k * 2 + 1 + 1 by omega]
          simpa using this
    obtain ⟨g1, g2⟩ := hget X j X[j] (List.getElem?_eq_getElem hjX)
    have k1 := hc _ _ g1
    have k2 := hc _ _ g2
    rw [Addr.add_lit, Nat.zero_add] at k1 k2
    rw [hx] at k1 q1
    rw [ev] at k2 q1 q2
    exact ⟨g, cap, by rw [e, hl], a, m, cc, k1, k2, q1, q2⟩
set_option maxHeartbeats 2000000 in
set_option maxRecDepth 100000 in
theorem letOut_keeps (b i : Nat) (o : Nat → Tg) (P : MP) (M : Ms) (w : World) (h : MAt w o b P M) (hi : i < M.n) (hl : M.fl.length + (M.nd i).lt.length ≤ 1000000) :
    Calls Tryz.prog 47 #[.pointer (some ⟨b, 0, none⟩), .int .i64 (i : Int)] w fun e w' => e = .returned (.tuple #[]) ∧ MDoneP w w' o b P (M.out i) := by
  have h16 := h.n16
  obtain ⟨rb, rc, hnv, hcell⟩ := h.nptr hi
  have c1 := h.cells.2.1
  rw [hnv] at c1
  have c2 := hcell i hi
  obtain ⟨G, hG⟩ : ∃ G, (M.nd i).lt = G := ⟨_, rfl⟩
  obtain ⟨gl, hgl⟩ : ∃ gl, G.length = gl := ⟨_, rfl⟩
  have CO : Hid (Calls Tryz.prog 94 #[.pointer (some ⟨P.nb i, 0, none⟩)] w fun e w' => ∃ a c, e = .returned (.slice a gl c) ∧ Hid (LSt w w' o b P M i (.slice a gl c) 0)) := by
    refine hidden ((out_callsG (i + 1) (P.nb i) o (P.np i) (M.nd i) w (by omega) (h.nds i hi)).mono ?_)
    rintro e w' ⟨lv, o', Q, rfl, g1, g2, g3, g4, g5⟩
    have hlen : ∃ a c, lv = .slice a gl c := by
      obtain ⟨X, x1, x2, _⟩ := g2
      have hXl : X.length = gl := by rw [← hgl, ← hG, ← x1, List.length_map]
      rcases x2.2 with ⟨e, h0⟩ | ⟨g, cap, cur, e, _⟩
      · exact ⟨none, 0, by rw [e, ← hXl, h0]⟩
      · exact ⟨_, cap, by rw [e, hXl]⟩
    obtain ⟨a, c, rfl⟩ := hlen
    refine ⟨a, c, rfl, hidden ⟨o', { P with np := updN P.np i Q }, ?_, Ret.keep (n := i + 1) g4 (by omega) (by omega), mine_meshy g5 (by omega) (by omega), g2, g3, rfl, rfl⟩⟩
    have := h.nodeR hi g1 g4 g5
    rw [List.take_zero, List.map_nil, List.append_nil]
    exact this
  have HLet : Hid (∀ wr lv j, LSt w wr o b P M i lv j → j < gl → ∃ lb c, lv = .slice (some ⟨lb, 0, none⟩) gl c ∧ ∃ (t : Int) (a : Option Addr) (m cc : Nat), wr.cell? ⟨lb, j * 2, none⟩ = some (.int .i64 t) ∧ wr.cell? ⟨lb, j * 2 + 1, none⟩ = some (.slice a m cc) ∧ ∀ W, Below wr.heap.size wr W → Calls Tryz.prog 95 #[.pointer (some ⟨b, 12, none⟩), .agg #[.int .i64 (i : Int), .int .i64 t, .slice a m cc]] W fun e w' => e = .returned (.tuple #[]) ∧ Hid (LSt w w' o b P M i lv (j + 1)) ∧ ∀ k x, wr.heap.size ≤ k → W.heap[k]? = some x → w'.heap[k]? = some x) := by
    refine hidden ?_
    rintro wr lv j ⟨oj, Pj, q1, q2, q3, q4, q5, q6, q7⟩ hj
    have hjG : j < (M.nd i).lt.length := by rw [hG, hgl]; exact hj
    obtain ⟨lb, c, e, a, m, cc, k1, k2, k3, k4⟩ := let_cells q4 hjG
    refine ⟨lb, c, by rw [e, hG, hgl], (M.nd i).lt[j].1, a, m, cc, k1, k2, ?_⟩
    intro W hBW
    have qW := q1.grow hBW nobody
    have kW : BodyAt W (grow oj wr nobody) (.slice a m cc) (M.nd i).lt[j].2 := k3.chg (S := fun _ => False) (Chg.of_below hBW _ _) (fun g hg => hg.elim) (grow_ext _ _ _)
    have lW : LetAt W (grow oj wr nobody) lv (M.nd i).lt := q4.chg (S := fun _ => False) (g := nobody) (Chg.of_below hBW _ _) q5 (by simp) (fun g hg => hg.elim) (grow_ext _ _ _)
    have oW : Own (grow oj wr nobody) nobody lv.ownBlock.toList := q5.ext (grow_ext _ _ _) q4.lt
    refine (add_calls b (grow oj wr nobody) Pj _ ⟨(i : Int), (M.nd i).lt[j].1, (M.nd i).lt[j].2⟩ a m cc W qW kW k4 (by
      show (M.fl ++ ((M.nd i).lt.take j).map _).length ≤ _
      rw [List.length_append, List.length_map, List.length_take]
      omega)).mono ?_
    rintro e' w' ⟨rfl, o2, v2, r1, r2, r3⟩
    have h0 : ∀ g, ftag g → g.n ≠ 0 := fun g hg => by rw [ftag_n hg]; decide
    have kp : Keep wr oj o2 := Keep.of_ext ((grow_ext oj wr nobody).trans r2 hBW.size)
    have ch : Chg oj meshy wr w' := (Chg.of_below hBW oj meshy).trans (ftag_meshy r3) (grow_ext _ _ _)
    refine ⟨rfl, hidden ⟨o2, { Pj with fv := v2 }, ?_, q2.trans kp q3.size, Chg.keep q3 ch q2, lW.chg r3 oW (by simp [ftag]) h0 r2, oW.ext r2 lW.lt, q6, q7⟩, ?_⟩
    · rw [← List.take_append_getElem hjG, List.map_append, ← List.append_assoc]
      exact r1
    · intro k x hk hx
      exact r3.block hx (by rw [grow_new hk]; simp [ftag])
  have HFin : Hid (∀ wr lv, LSt w wr o b P M i lv gl → MDoneP w wr o b P (M.out i)) := by
    refine hidden ?_
    rintro wr lv ⟨oj, Pj, q1, q2, q3, q4, q5, q6, q7⟩
    rw [← hgl, ← hG, List.take_length] at q1
    exact ⟨oj, Pj, q1, q2, q3, q6, q7⟩
  obtain ⟨R, hRes⟩ : ∃ R, M.out i = R := ⟨_, rfl⟩
  rw [hRes] at HFin ⊢
  obtain ⟨LS, hLS⟩ : ∃ LS : World → Value → Nat → Prop, (fun W lv j => LSt w W o b P M i lv j) = LS := ⟨_, rfl⟩
  have hLSe : ∀ W lv j, LSt w W o b P M i lv j = LS W lv j := fun W lv j => by rw [← hLS]
  simp only [hLSe] at CO HLet HFin
  obtain ⟨nb, hnb⟩ : ∃ nb, P.nb i = nb := ⟨_, rfl⟩
  rw [hnb] at c2 CO
  obtain ⟨nn, hnn⟩ : ∃ nn, M.n = nn := ⟨_, rfl⟩
  rw [hnn] at c1
  have hin : (i : Int) < (nn : Int) := by omega
  have hglb : gl ≤ 1000000 := by rw [← hgl, ← hG]; omega
  clear h h16 hnv hcell hG hgl hl hRes hLS hLSe hnb hi hnn
  go_enter Tryz.func47, Tryz.ntmps47
  go_wp2_with fail
  refine CO.out.mono ?_
  rintro e w1 ⟨la, lc, rfl, HL0⟩
  clear CO c1 c2
  go_wp2_with fail
  go_loopg [15] gl (fun gh x wr => ∃ j : Nat, j + gh = gl ∧ x = .int .i64 (j : Int) ∧ Hid (LS wr (.slice la gl lc) j))
  case atStart => exact ⟨0, by omega, rfl, HL0⟩
  case round =>
    obtain ⟨j, hjg, rfl, HS⟩ := hrel
    by_cases hj : j < gl
    · have hjz : (j : Int) < (gl : Int) := by omega
      obtain ⟨lb, c, e, t, a, m, cc, k1, k2, CA⟩ := HLet.out wr _ j HS.out hj
      cases e
      obtain ⟨W1, hW1⟩ : ∃ W1, wr.alloc (.cells #[.int .i64 t, .slice a m cc] 165) = W1 := ⟨_, rfl⟩
      have hB1 : Below wr.heap.size wr W1 := by rw [← hW1]; exact (Below.refl _ _).alloc (Nat.le_refl _) _
      have hbx : W1.heap[wr.heap.size]? = some (.cells #[.int .i64 t, .slice a m cc] 165 (0, 0)) := by rw [← hW1]; exact heap_alloc_new wr _
      have S0 : W1.drew.cell? ⟨wr.heap.size, 0, none⟩ = some (.int .i64 t) ∧ W1.drew.cell? ⟨wr.heap.size, 1, none⟩ = some (.slice a m cc) := by
        have : W1.drew.heap[wr.heap.size]? = _ := hbx
        constructor <;> simp [World.cell?, this]
      have C : Hid (Calls Tryz.prog 95 #[.pointer (some ⟨b, 12, none⟩), .agg #[.int .i64 (i : Int), .int .i64 t, .slice a m cc]] W1.drew fun e w' => e = .returned (.tuple #[]) ∧ (w'.cell? ⟨wr.heap.size, 0, none⟩ = some (.int .i64 t) ∧ w'.cell? ⟨wr.heap.size, 1, none⟩ = some (.slice a m cc)) ∧ Hid (LS w' (.slice (some ⟨lb, 0, none⟩) gl lc) (j + 1))) := by
        refine hidden ((CA W1.drew hB1.drew).mono ?_)
        rintro e w' ⟨rfl, g1, g2⟩
        have := g2 wr.heap.size _ (Nat.le_refl _) (show W1.drew.heap[wr.heap.size]? = _ from hbx)
        exact ⟨rfl, by constructor <;> simp [World.cell?, this], g1⟩
      have HW1 := hidden hW1
      clear CA hW1 hB1 hbx HS
      obtain ⟨pb, hpb⟩ : ∃ pb, wr.heap.size = pb := ⟨_, rfl⟩
      rw [hpb] at S0 C
      go_upto_region 3 with fail
      first | rw [HW1.out] | skip
      clear hpb k1 k2
      go_region_held3 (fun w' => w'.cell? ⟨pb, 0, none⟩ = some (.int .i64 t) ∧ w'.cell? ⟨pb, 1, none⟩ = some (.slice a m cc)) (with_reducible assumption) (first | (go_at_call 95; refine C.out.mono ?_; rintro e w4 ⟨rfl, hS4, HD⟩))
      go_wp2_with fail
      go_roundg (gl - (j + 1))
      case measure => omega
      case rel => exact ⟨j + 1, by omega, by go_num, HD⟩
    · have hjz : ¬ (j : Int) < (gl : Int) := by omega
      obtain rfl : gl = j := by omega
      have HD := hidden (HFin.out wr _ HS.out)
      clear HS HLet HFin
      go_wp2_with fail
      go_end0
      exact ⟨rfl, HD.out⟩
theorem letOut_calls (b i : Nat) (o : Nat → Tg) (P : MP) (M : Ms) (w : World) (h : MAt w o b P M) (hi : i < M.n) (hl : M.fl.length + (M.nd i).lt.length ≤ 1000000) :
    Calls Tryz.prog 47 #[.pointer (some ⟨b, 0, none⟩), .int .i64 (i : Int)] w fun e w' => e = .returned (.tuple #[]) ∧ MDone w w' o b (M.out i) := by
  refine (letOut_keeps b i o P M w h hi hl).mono ?_
  rintro e w' ⟨rfl, hd⟩
  exact ⟨rfl, hd.done⟩
theorem lose_no (b : Nat) (o : Nat → Tg) (P : MP) (M : Ms) (i : Int) (w : World) (h : MAt w o b P M) (hi : i < 0 ∨ (M.fl.length : Int) ≤ i) :
    Calls Tryz.prog 42 #[.pointer (some ⟨b, 0, none⟩), .int .i64 i] w fun e w' => e = .returned (errv 1) ∧ Below w.heap.size w w' := by
  have C := hidden (take_no b o P M i w h hi)
  obtain ⟨ev, hev⟩ : ∃ ev, errv 1 = ev := ⟨_, rfl⟩
  rw [hev] at C ⊢
  clear h hi hev
  go_enter Tryz.func42, Tryz.ntmps42
  go_wp2_with fail
  refine C.out.mono ?_
  rintro e w1 ⟨rfl, hb⟩
  have HB := hidden hb
  clear hb C
  go_wp2_with fail
  go_ret
  exact ⟨rfl, HB.out.alloc HB.out.size _⟩
def Ms.lose (M : Ms) (i : Nat) : Ms := { M with fl := M.fl.eraseIdx i }
theorem lose_calls (b : Nat) (o : Nat → Tg) (P : MP) (M : Ms) (i : Nat) (w : World) (h : MAt w o b P M) (hi : i < M.fl.length) :
    Calls Tryz.prog 42 #[.pointer (some ⟨b, 0, none⟩), .int .i64 (i : Int)] w fun e w' => e = .returned .nilIface ∧ MDone w w' o b (M.lose i) := by
  have C := hidden (take_calls b o P M i M.fl[i] w h (List.getElem?_eq_getElem hi))
  obtain ⟨fr, hfr⟩ : ∃ z, M.fl[i].fr = z := ⟨_, rfl⟩
  obtain ⟨tw, htw⟩ : ∃ z, M.fl[i].tw = z := ⟨_, rfl⟩
  rw [hfr, htw] at C
  clear h hfr htw
  go_enter Tryz.func42, Tryz.ntmps42
  go_wp2_with fail
  refine C.out.mono ?_
  rintro e w1 ⟨a, m, c, rfl, hT⟩
  have HT := hidden hT
  clear hT C
  go_wp2_with fail
  go_ret
  obtain ⟨o', v, g1, g2, g3, g4, g5⟩ := HT.out
  have hb : Below w1.heap.size w1 (w1.alloc (.cells #[.int .i64 fr, .int .i64 tw, .slice a m c] 167)) := (Below.refl _ _).alloc (Nat.le_refl _) _
  exact ⟨rfl, o', _, g1.below hb, Keep.of_ext g4, (ftag_meshy g5).trans' (Chg.of_below hb _ _)⟩
def Ms.twice (M : Ms) (f : Fl) : Ms := { M with fl := M.fl ++ [f] }
theorem double_no (b : Nat) (o : Nat → Tg) (P : MP) (M : Ms) (i : Int) (w : World) (h : MAt w o b P M) (hi : i < 0 ∨ (M.fl.length : Int) ≤ i) :
    Calls Tryz.prog 90 #[.pointer (some ⟨b, 12, none⟩), .int .i64 i] w fun e w' => e = .returned (errv 1) ∧ w' = w := by
  obtain ⟨X, hX1, hX2, hX3⟩ := h.fly
  have hXl : X.length = M.fl.length := by rw [← hX1, List.length_map]
  obtain ⟨fa, fcp, hfv⟩ := hX2.form
  have c12 := h.cells.2.2.2.2
  rw [hfv] at c12
  have hmax := fl_max hX2
  obtain ⟨fn, hfn⟩ : ∃ fn, X.length = fn := ⟨_, rfl⟩
  rw [hfn] at c12 hXl hmax
  have CH := hidden (has_calls fa fn fcp i w hmax)
  rw [show decide (0 ≤ i ∧ i < (fn : Int)) = false by simp; omega] at CH
  clear h hX1 hX2 hX3 hfv hfn hi hXl
  go_enter Tryz.func90, Tryz.ntmps90
  go_wp2_with fail
  refine CH.out.mono ?_
  rintro e w1 ⟨rfl, rfl⟩
  go_wp2_with fail
  go_ret
  exact ⟨rfl, rfl⟩
set_option maxRecDepth 100000 in
theorem double_calls (b : Nat) (o : Nat → Tg) (P : MP) (M : Ms) (i : Nat) (f : Fl) (w : World) (h : MAt w o b P M) (hf : M.fl[i]? = some f) (hl : M.fl.length < 1000) :
    Calls Tryz.prog 90 #[.pointer (some ⟨b, 12, none⟩), .int .i64 (i : Int)] w fun e w' => e = .returned .nilIface ∧ FDone w w' o b P M (M.fl ++ [f]) := by
  obtain ⟨X, hX1, hX2, hX3⟩ := h.fly
  have hXl : X.length = M.fl.length := by rw [← hX1, List.length_map]
  have hiM : i < M.fl.length := (List.getElem?_eq_some_iff.1 hf).1
  have hiX : i < X.length := by omega
  obtain ⟨x, hx⟩ : ∃ x, X[i]? = some x := ⟨_, List.getElem?_eq_getElem hiX⟩
  have hxf : x.1 = f := by
    have : (X.map Prod.fst)[i]? = some x.1 := by rw [List.getElem?_map, hx]; rfl
    rw [hX1, hf] at this
    exact (Option.some.inj this).symm
  obtain ⟨hb1, hb2⟩ := hX3 x (List.mem_of_getElem? hx)
  have hb1' := hb1
  obtain ⟨a, m, c, hxv, _⟩ := hb1'
  rw [hxf, hxv] at hb1
  rw [hxv] at hb2
  have hX2' := hX2
  rcases hX2' with ⟨_, e⟩ | ⟨g, off, cap, cur, hfv, hg, h1, h2, h3, h4⟩
  · rw [e] at hiX; simp at hiX
  have hmax := fl_max hX2
  obtain ⟨q0, q1, q2⟩ := fc_get X i x hx
  have e0 : w.cell? ⟨g, off + i * 3, none⟩ = some (.int .i64 f.fr) := by rw [← hxf]; simp only [World.cell?, hg]; exact h4 _ _ q0
  have e1 : w.cell? ⟨g, off + i * 3 + 1, none⟩ = some (.int .i64 f.tw) := by rw [← hxf]; simp only [World.cell?, hg]; rw [Nat.add_assoc]; exact h4 _ _ q1
  have e2 : w.cell? ⟨g, off + i * 3 + 2, none⟩ = some (.slice a m c) := by rw [← hxv]; simp only [World.cell?, hg]; rw [Nat.add_assoc]; exact h4 _ _ q2
  have c12 := h.cells.2.2.2.2
  rw [hfv] at c12
  have CA := hidden (add_calls b o P M f a m c w h hb1 hb2 (by omega))
  obtain ⟨fn, hfn⟩ : ∃ fn, X.length = fn := ⟨_, rfl⟩
  rw [hfn] at c12 hmax hXl hiX
  have CH := hidden (has_calls (some ⟨g, off, none⟩) fn cap (i : Int) w hmax)
  rw [show decide (0 ≤ (i : Int) ∧ (i : Int) < (fn : Int)) = true by simp; omega] at CH
  have hin : (i : Int) < (fn : Int) := by omega
  have hge : ¬ (1000 : Int) ≤ (fn : Int) := by omega
  obtain ⟨fr, hfr⟩ : ∃ z, f.fr = z := ⟨_, rfl⟩
  obtain ⟨tw, htw⟩ : ∃ z, f.tw = z := ⟨_, rfl⟩
  rw [hfr] at e0
  rw [htw] at e1
  rw [hfr, htw] at CA
  clear h hX1 hX2 hX3 hx hxf hxv hb1 hb2 hfv hg h1 h2 h3 h4 hfn q0 q1 q2 hXl hiM hmax hf hl hfr htw hiX
  go_enter Tryz.func90, Tryz.ntmps90
  go_wp2_with fail
  refine CH.out.mono ?_
  rintro e w1 ⟨rfl, hw1⟩
  obtain rfl : w = w1 := hw1.symm
  go_wp2_with fail
  refine CA.out.mono ?_
  rintro e w2 ⟨rfl, hD⟩
  have HD := hidden hD
  clear hD CA CH e0 e1 e2 c12
  go_wp2_with fail
  go_ret
  exact ⟨rfl, HD.out⟩
theorem twice_no (b : Nat) (o : Nat → Tg) (P : MP) (M : Ms) (i : Int) (w : World) (h : MAt w o b P M) (hi : i < 0 ∨ (M.fl.length : Int) ≤ i) :
    Calls Tryz.prog 43 #[.pointer (some ⟨b, 0, none⟩), .int .i64 i] w fun e w' => e = .returned (errv 1) ∧ w' = w := by
  have C := hidden (double_no b o P M i w h hi)
  obtain ⟨ev, hev⟩ : ∃ ev, errv 1 = ev := ⟨_, rfl⟩
  rw [hev] at C ⊢
  clear h hi hev
  go_enter Tryz.func43, Tryz.ntmps43
  go_wp2_with fail
  refine C.out.mono ?_
  rintro e w1 ⟨rfl, rfl⟩
  go_wp2_with fail
  go_ret
  exact ⟨rfl, rfl⟩
theorem twice_calls (b : Nat) (o : Nat → Tg) (P : MP) (M : Ms) (i : Nat) (f : Fl) (w : World) (h : MAt w o b P M) (hf : M.fl[i]? = some f) (hl : M.fl.length < 1000) :
    Calls Tryz.prog 43 #[.pointer (some ⟨b, 0, none⟩), .int .i64 (i : Int)] w fun e w' => e = .returned .nilIface ∧ MDone w w' o b (M.twice f) := by
  have C := hidden (double_calls b o P M i f w h hf hl)
  clear h hf hl
  go_enter Tryz.func43, Tryz.ntmps43
  go_wp2_with fail
  refine C.out.mono ?_
  rintro e w1 ⟨rfl, hD⟩
  have HD := hidden hD
  clear hD C
  go_wp2_with fail
  go_ret
  obtain ⟨o', v, g1, g2, g3⟩ := HD.out
  exact ⟨rfl, o', _, g1, Keep.of_ext g2, ftag_meshy g3⟩
end Go.Proofs.YtpiamlgmadnepaaGreat.MS

