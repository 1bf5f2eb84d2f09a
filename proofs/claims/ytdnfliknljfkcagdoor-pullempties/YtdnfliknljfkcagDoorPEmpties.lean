/-
  What the Go function PullEmpties returns: true, whatever it is given. It changes nothing that was there.
-/
import Derived.Test.YtdnfliknljfkcagDoorPullS
import Derived.Deep.CutRange
import Derived.Deep.RegionHeld3
namespace Go.Proofs.YtdnfliknljfkcagDoor.Empties
open Go.ChangeShapes Go.WideShapes Go.ChangeAt Go.RowKit Go.Maps Go.Proofs.YtdnfliknljfkcagDoor.Mem Go.Proofs.YtdnfliknljfkcagDoor.PU Go.Proofs.YtdnfliknljfkcagDoor.Pull
set_option linter.unusedVariables false

/-- what the law has made -/
structure ESt (w W : World) (b : Nat) (mb : Nat → Nat) (td : Nat → Int) (K : Wts) : Prop where
  bel : Below w.heap.size w W
  blk : ∀ k ∈ pblks b mb, w.heap.size ≤ k
  pull : PullAt W b mb 1 0 td (fun _ => -1) K
  inv : PU.Inv K
  len : K.length ≤ 30
theorem ESt.below {w W W' : World} {b : Nat} {mb : Nat → Nat} {td : Nat → Int} {K : Wts} (h : ESt w W b mb td K) (hb : Below W.heap.size W W') : ESt w W' b mb td K :=
  ⟨h.bel.trans (hb.mono h.bel.size), h.blk, h.pull.below hb, h.inv, h.len⟩
theorem ESt.turn {w W W' : World} {b : Nat} {mb : Nat → Nat} {td td' : Nat → Int} {K K' : Wts} (h : ESt w W b mb td K) (ho : Only (pblks b mb) W W') (hp : PullAt W' b mb 1 0 td' (fun _ => -1) K') (hi : PU.Inv K') (hl : K'.length ≤ 30) : ESt w W' b mb td' K' :=
  ⟨h.bel.trans (ho.below h.bel.size h.blk), h.blk, hp, hi, hl⟩
/-- so many were wanted by now, all of one track -/
structure Mny (K : Wts) (t : Int) (i many : Nat) : Prop where
  all : ∀ x ∈ K, x.b = t
  len : K.length ≤ many
  le : many ≤ i
  none : K = [] ↔ many = 0
theorem Mny.more {K : Wts} {t a c : Int} {i many : Nat} (h : Mny K t i many) (hf : wf a t c = 0) : Mny (wantL K a t c) t (i + 1) (many + 1) := by
  unfold wantL
  rw [if_pos hf]
  refine ⟨fun x hx => ?_, ?_, by have := h.le; omega, ?_⟩
  · rcases mem_put.1 hx with q | rfl
    · exact h.all x q.1
    · rfl
  · have := put_len K ⟨a, t, c⟩
    have := h.len
    omega
  · constructor
    · intro e; simp [put] at e
    · intro e; omega
theorem Mny.same {K : Wts} {t a c : Int} {i many : Nat} (h : Mny K t i many) (hf : wf a t c ≠ 0) : Mny (wantL K a t c) t (i + 1) many := by
  unfold wantL
  rw [if_neg hf]
  exact ⟨h.all, h.len, by have := h.le; omega, h.none⟩
/-- a row of numbers beside it -/
structure FSt (w W : World) (b : Nat) (mb : Nat → Nat) (td : Nat → Int) (K : Wts) (v : Value) (n : Nat) (ws : List Int) : Prop where
  e : ESt w W b mb td K
  row : W.ownsRow 0 3 1 v n (ic ws)
theorem FSt.below {w W W' : World} {b n : Nat} {mb : Nat → Nat} {td : Nat → Int} {K : Wts} {v : Value} {ws : List Int} (h : FSt w W b mb td K v n ws) (hb : Below W.heap.size W W') : FSt w W' b mb td K v n ws := ⟨h.e.below hb, own_below h.row hb⟩
theorem FSt.turn {w W W' : World} {b n : Nat} {mb : Nat → Nat} {td td' : Nat → Int} {K K' : Wts} {v : Value} {ws : List Int} (h : FSt w W b mb td K v n ws) (ho : Only (pblks b mb) W W') (hp : PullAt W' b mb 1 0 td' (fun _ => -1) K') (hi : PU.Inv K') (hl : K'.length ≤ 30) : FSt w W' b mb td' K' v n ws :=
  ⟨h.e.turn ho hp hi hl, ho.owns h.row (row_apart h.e.pull h.row (by decide))⟩

set_option maxHeartbeats 4000000 in
set_option maxRecDepth 100000 in
theorem walk_empties (a0 : Option Addr) (n0 cap0 : Nat) (z0 : Wts) (t : Int) (w : World) (hg : w.cell? ⟨0, 0, none⟩ = some (.iface 108 (.agg #[.pointer (some ⟨1, 25, none⟩)]))) (h0 : WArg w a0 n0 z0) :
    Calls Tryd.prog 3 #[.slice a0 n0 cap0, .int .i64 t] w fun e w' => e = .returned (.bool true) ∧ Below w.heap.size w w' := by
  have hn0 := h0.2.2
  have H0 := hidden h0
  have HG := hidden hg
  have h0s : 0 < w.heap.size := World.block_lt_of_cell? w _ hg
  have CN := hidden (new_ok 1 w (by omega) (by omega))
  clear h0 hg
  go_enter Tryd.func3, Tryd.ntmps3
  go_wp2_with fail
  refine CN.out.mono ?_
  rintro e w1 ⟨b, rfl, mb, hblk, hp, hb⟩
  have HS0 : Hid (ESt w w1 b mb (fun _ => -1) []) := ⟨hb, hblk, hp, inv_nil, by simp⟩
  clear hblk hp hb CN
  by_cases ht1 : t < 1
  · have d1 : decide (t < 1) = true := decide_eq_true ht1
    go_wp2_with fail
    go_ret
    exact ⟨rfl, HS0.out.bel⟩
  have d1 : decide (t < 1) = false := decide_eq_false ht1
  by_cases ht2 : 8 < t
  · have d2 : decide (8 < t) = true := decide_eq_true ht2
    go_wp2_with fail
    go_ret
    exact ⟨rfl, HS0.out.bel⟩
  have d2 : decide (8 < t) = false := decide_eq_false ht2
  go_wp2_with fail
  clear d1 d2
  obtain ⟨m, hm⟩ : ∃ m, min n0 30 = m := ⟨_, rfl⟩
  have HM0 : Hid (Mny [] t 0 0) := ⟨by simp, by simp, by omega, by simp⟩
  go_loopg [7, 8] m (fun g x y wr => ∃ (i many : Nat) (K : Wts), i + g = m ∧ x = .int .i64 (many : Int) ∧ y = .int .i64 (i : Int) ∧ Hid (Mny K t i many) ∧ Hid (ESt w wr b mb (fun _ => -1) K))
  case atStart => exact ⟨0, 0, [], by omega, rfl, rfl, HM0, HS0⟩
  case round =>
    obtain ⟨i, many, K, hig, rfl, rfl, HM, HS⟩ := hrel
    clear HS0 HM0
    have hmi := HM.out.le
    by_cases hi : i < m
    · have hi1 : i < n0 := by omega
      have hi2 : i < 30 := by omega
      have d1 : decide ((i : Int) < (n0 : Int)) = true := decide_eq_true (by omega)
      have d2 : decide ((i : Int) < 30) = true := decide_eq_true (by omega)
      have hiz : (i : Int) < (n0 : Int) := by omega
      obtain ⟨lb, lo, rfl, hlb, hls⟩ := H0.out.at (by omega)
      obtain ⟨c0, -, c2⟩ := hls i hi1
      clear hls
      obtain ⟨x, hx⟩ : ∃ x, z0.getD i zz = x := ⟨_, rfl⟩
      rw [hx] at c0 c2
      clear hx
      obtain ⟨xa, xt, xc⟩ := x
      simp only at c0 c2
      have HC : Hid (∀ W, Below w.heap.size w W → W.cell? ⟨lb, lo + i * 3, none⟩ = some (.int .i64 xa) ∧ W.cell? ⟨lb, lo + i * 3 + 2, none⟩ = some (.int .i64 xc)) := fun W hW => ⟨(hW.cell (World.block_lt_of_cell? w _ c0)).trans c0, (hW.cell (World.block_lt_of_cell? w _ c2)).trans c2⟩
      obtain ⟨K', hK'⟩ : ∃ K', wantL K xa t xc = K' := ⟨_, rfl⟩
      have HCW : Hid (∀ W, (W.cell? ⟨lb, lo + i * 3, none⟩ = some (.int .i64 xa) ∧ W.cell? ⟨lb, lo + i * 3 + 2, none⟩ = some (.int .i64 xc) ∧ Hid (ESt w W b mb (fun _ => -1) K ∨ ESt w W b mb (fun _ => -1) K')) → Calls Tryd.prog 6 #[.pointer (some ⟨b, 0, none⟩), .int .i64 xa, .int .i64 t, .int .i64 xc] W fun e w' => e = .returned (errv (wf xa t xc)) ∧ (w'.cell? ⟨lb, lo + i * 3, none⟩ = some (.int .i64 xa) ∧ w'.cell? ⟨lb, lo + i * 3 + 2, none⟩ = some (.int .i64 xc) ∧ Hid (ESt w w' b mb (fun _ => -1) K ∨ ESt w w' b mb (fun _ => -1) K')) ∧ Hid (ESt w w' b mb (fun _ => -1) K')) := by
        refine hidden ?_
        rintro W ⟨_, _, hS⟩
        have hl1 := wantL_len K xa t xc
        have hl2 := HM.out.len
        rcases hS.out with hE | hE
        · refine (want_calls b mb 1 0 xa t xc _ _ K K' W hE.pull hE.inv (by omega) (by rw [← hK']; exact wanted_wantL K xa t xc)).mono ?_
          rintro e w' ⟨rfl, hp, ho⟩
          have h2 := hE.turn ho hp (by rw [← hK']; exact inv_wantL hE.inv _ _ _) (by rw [← hK']; omega)
          exact ⟨rfl, ⟨(HC.out w' h2.bel).1, (HC.out w' h2.bel).2, .inr h2⟩, h2⟩
        · refine (want_calls b mb 1 0 xa t xc _ _ K' K' W hE.pull hE.inv (by rw [← hK']; omega) (by rw [← hK']; exact wanted_again)).mono ?_
          rintro e w' ⟨rfl, hp, ho⟩
          have h2 := hE.turn ho hp hE.inv hE.len
          exact ⟨rfl, ⟨(HC.out w' h2.bel).1, (HC.out w' h2.bel).2, .inr h2⟩, h2⟩
      have hS0 : wr.drew.cell? ⟨lb, lo + i * 3, none⟩ = some (.int .i64 xa) ∧ wr.drew.cell? ⟨lb, lo + i * 3 + 2, none⟩ = some (.int .i64 xc) ∧ Hid (ESt w wr.drew b mb (fun _ => -1) K ∨ ESt w wr.drew b mb (fun _ => -1) K') := ⟨(HC.out _ HS.out.bel).1, (HC.out _ HS.out.bel).2, .inl (HS.out.below ((Below.refl _ _).drew))⟩
      clear c0 c2 HC
      by_cases hf : wf xa t xc = 0
      · have HM2 : Hid (Mny K' t (i + 1) (many + 1)) := by rw [← hK']; exact HM.out.more hf
        rw [hf, errv_zero] at HCW
        clear hf hK'
        go_wp2_with fail
        go_region_held3 (fun w' => w'.cell? ⟨lb, lo + i * 3, none⟩ = some (.int .i64 xa) ∧ w'.cell? ⟨lb, lo + i * 3 + 2, none⟩ = some (.int .i64 xc) ∧ Hid (ESt w w' b mb (fun _ => -1) K ∨ ESt w w' b mb (fun _ => -1) K')) (with_reducible assumption) (first | (go_at_call 6; refine (HCW.out _ (by with_reducible assumption)).mono ?_; rintro e w4 ⟨rfl, hS4, HE4⟩))
        go_wp2_with fail
        go_roundg (m - (i + 1))
        case measure => omega
        case rel => exact ⟨i + 1, many + 1, K', by omega, by go_num, by go_num, HM2, HE4⟩
      · have HM2 : Hid (Mny K' t (i + 1) many) := by rw [← hK']; exact HM.out.same hf
        have hf1 : wf xa t xc = 1 := by have := wf_le xa t xc; omega
        rw [hf1] at HCW
        have hcm := fun w => cmp_eq 1 w
        have hgr := fun o w => grd_eq 1 o w
        clear hf hK' hf1
        go_wp2_with fail
        go_region_held3 (fun w' => w'.cell? ⟨lb, lo + i * 3, none⟩ = some (.int .i64 xa) ∧ w'.cell? ⟨lb, lo + i * 3 + 2, none⟩ = some (.int .i64 xc) ∧ Hid (ESt w w' b mb (fun _ => -1) K ∨ ESt w w' b mb (fun _ => -1) K')) (with_reducible assumption) (first | (go_at_call 6; refine (HCW.out _ (by with_reducible assumption)).mono ?_; rintro e w4 ⟨rfl, hS4, HE4⟩))
        go_wp2_with fail
        go_roundg (m - (i + 1))
        case measure => omega
        case rel => exact ⟨i + 1, many, K', by omega, rfl, by go_num, HM2, HE4⟩
    · by_cases hin : i < n0
      · have d1 : decide ((i : Int) < (n0 : Int)) = true := decide_eq_true (by omega)
        have d2 : decide ((i : Int) < 30) = false := decide_eq_false (by omega)
        have CH := hidden (who_calls b mb 1 0 t _ _ K wr HS.out.pull HS.out.inv (by have := HS.out.len; omega))
        go_wp2_with fail
        refine CH.out.mono ?_
        rintro e w3 ⟨wv, rfl, hrow, hb3⟩
        have e1 : of K t = K := of_all HM.out.all
        rw [e1] at hrow
        have HF3 : Hid (FSt w w3 b mb (fun _ => -1) K wv K.length (whoS K t)) := ⟨HS.out.below hb3, own_base hrow (Nat.zero_le _)⟩
        obtain ⟨wa, wc, rfl, -⟩ := own_ints hrow (by have := HS.out.len; omega)
        clear hrow hb3 CH HS e1
        have CC := hidden (changed_calls b mb 1 0 _ _ K w3 HF3.out.e.pull HF3.out.e.inv)
        go_wp2_with fail
        refine CC.out.mono ?_
        rintro e w4 ⟨tv, rfl, hp, hrow, ho⟩
        have HF4 := hidden (HF3.out.turn ho hp HF3.out.e.inv HF3.out.e.len)
        obtain ⟨ti, hti⟩ : ∃ ti : Nat, t = (ti : Int) + 1 := ⟨(t - 1).toNat, by omega⟩
        have HTl : Hid ((chg K (fun _ => -1) 8).length = if K = [] then 0 else 1) := chg_one (i := ti) HF3.out.e.inv (by omega) (by rw [← hti]; exact HM.out.all)
        obtain ⟨tn, htn⟩ : ∃ tn, (chg K (fun _ => -1) 8).length = tn := ⟨_, rfl⟩
        rw [htn] at hrow HTl
        obtain ⟨ta, tc, rfl, -⟩ := own_wts hrow (by have := chg_len K (fun _ => -1) 8; omega)
        have HTn := hidden htn
        clear hrow hp ho CC HF3 hti htn
        have hkl := HM.out.len
        have hle := HM.out.le
        obtain ⟨kn, hkn⟩ : ∃ kn, K.length = kn := ⟨_, rfl⟩
        rw [hkn] at HF4 hkl ⊢
        have HKn := hidden hkn
        have d3 : decide ((many : Int) < (kn : Int)) = false := decide_eq_false (by omega)
        have d3' : decide (many < kn) = false := decide_eq_false (by omega)
        have HW2 : Hid (kn = 0 ∧ many = 0 ∧ tn = 0 ∨ 0 < kn ∧ 0 < many ∧ tn = 1) := by
          by_cases hK : K = []
          · left
            refine ⟨by rw [← hkn, hK]; rfl, HM.out.none.1 hK, by have := HTl.out; rw [if_pos hK] at this; exact this⟩
          · right
            refine ⟨by rw [← hkn]; exact List.length_pos_iff.2 hK, ?_, by have := HTl.out; rw [if_neg hK] at this; exact this⟩
            have : many ≠ 0 := fun q => hK (HM.out.none.2 q)
            omega
        clear hkn
        obtain ⟨kz, f1, f2, f3, f4, f5, f6, f7, f8⟩ : ∃ kz : Bool, ((kn : Int) == 0) = kz ∧ (kn == 0) = kz ∧ ((many : Int) == 0) = kz ∧ (many == 0) = kz ∧ ((tn : Int) == 1) = !kz ∧ (tn == 1) = !kz ∧ decide ((0 : Int) < (many : Int)) = !kz ∧ decide (0 < many) = !kz := by
          rcases HW2.out with ⟨hk0, hm0, htn0⟩ | ⟨hk0, hm0, htn0⟩
          · subst hk0 hm0 htn0
            exact ⟨true, rfl, rfl, rfl, rfl, rfl, rfl, rfl, rfl⟩
          · subst htn0
            refine ⟨false, ?_, ?_, ?_, ?_, rfl, rfl, decide_eq_true (by omega), decide_eq_true hm0⟩
            · exact beq_eq_false_iff_ne.2 (by omega)
            · exact beq_eq_false_iff_ne.2 (by omega)
            · exact beq_eq_false_iff_ne.2 (by omega)
            · exact beq_eq_false_iff_ne.2 (by omega)
        clear HW2
        have HInv := hidden HF4.out.e.inv
        go_wp2_with fail
        clear f1 f2 f3 f4 f5 f6 f7 f8 d3 d3'
        have HF0 : Hid (∃ ws, Hid (ws = whoS K t) ∧ FSt w w4 b mb (fun i => need K ((i : Int) + 1)) (rms K t (ws.take 0)) (.slice wa kn wc) kn ws) := ⟨_, rfl, HF4.out⟩
        obtain ⟨ws, hws, hF0⟩ := HF0.out
        have HWs := hidden hws
        have HF0 := hidden hF0
        clear hws hF0 HF4
        go_loopg [11] kn (fun g y wr => ∃ (i : Nat), i + g = kn ∧ y = .int .i64 (i : Int) ∧ Hid (FSt w wr b mb (fun i => need K ((i : Int) + 1)) (rms K t (ws.take i)) (.slice wa kn wc) kn ws))
        case atStart => exact ⟨0, by omega, rfl, HF0⟩
        case round =>
          obtain ⟨i, hig, rfl, HF⟩ := hrel
          clear HF0
          by_cases hi : i < kn
          · have hiz : (i : Int) < (kn : Int) := by omega
            obtain ⟨a', cap', ev, hArg, -⟩ := own_ints HF.out.row (by omega)
            simp only [Value.slice.injEq] at ev
            rw [← ev.1] at hArg
            clear ev
            obtain ⟨xb, xo, rfl, hxs⟩ := hArg.at (by omega)
            have hwl : ws.length = kn := hArg.2.1
            have c0 := hxs i hi
            obtain ⟨a, ha⟩ : ∃ a, ws.getD i 0 = a := ⟨_, rfl⟩
            rw [ha] at c0
            have ha2 : ws[i]? = some a := by rw [← ha, List.getD_eq_getElem?_getD, List.getElem?_eq_getElem (by omega)]; rfl
            have hblt : xb < wr.heap.size := World.block_lt_of_cell? wr _ c0
            have HXB : Hid (∀ k, (Value.slice (some ⟨xb, xo, none⟩) kn wc).ownBlock = some k → k ∉ pblks b mb) := row_apart HF.out.e.pull HF.out.row (by decide)
            have HA2 := hidden ha2
            have HA3 := hidden ha
            have HD1 : Hid (df (rms K t (ws.take i)) a t = 0) := by rw [HWs.out] at ha2 ⊢; exact next_df HInv.out ha2
            have HD2 : Hid (df (del (rms K t (ws.take i)) a t) a t = 5) := by rw [HWs.out] at ha2 ⊢; exact gone_df HInv.out ha2 _
            have C1 := drop_calls b mb 1 0 a t _ _ (rms K t (ws.take i)) (del (rms K t (ws.take i)) a t) wr HF.out.e.pull HF.out.e.inv ⟨fun _ => dels_del _ _ _, fun q => absurd HD1.out q⟩
            rw [HD1.out, errv_zero] at C1
            have HC1 := hidden C1
            clear C1 hxs hArg ha ha2
            go_wp2_with fail
            refine HC1.out.mono ?_
            rintro e w6 ⟨rfl, hp6, ho6⟩
            have HR : Hid (rms K t (ws.take (i + 1)) = del (rms K t (ws.take i)) a t) := by rw [take_num HA2.out, rms_snoc]; exact rfl
            have hF6 := HF.out.turn ho6 hp6 (inv_del HF.out.e.inv a t) (Nat.le_trans (del_len _ a t) HF.out.e.len)
            rw [← HR.out] at hF6
            have C2 := drop_calls b mb 1 0 a t _ _ (rms K t (ws.take (i + 1))) (rms K t (ws.take (i + 1))) w6 hF6.e.pull hF6.e.inv ⟨fun q => absurd (by rw [HR.out] at q; exact q) (by rw [HD2.out]; omega), fun _ y => Iff.rfl⟩
            rw [show df (rms K t (ws.take (i + 1))) a t = 5 from by rw [HR.out]; exact HD2.out] at C2
            have HC2 := hidden C2
            have HF6 := hidden hF6
            have c6 : w6.cell? ⟨xb, xo + i, none⟩ = some (.int .i64 a) := by
              obtain ⟨a6, cap6, ev6, hArg6, -⟩ := own_ints (ho6.owns HF.out.row HXB.out) (by omega)
              simp only [Value.slice.injEq] at ev6
              rw [← ev6.1] at hArg6
              obtain ⟨b6, o6, e6, h6⟩ := hArg6.at (by omega)
              simp only [Option.some.injEq, Addr.mk.injEq, and_true] at e6
              obtain ⟨rfl, rfl⟩ := e6
              have := h6 i hi
              rw [HA3.out] at this
              exact this
            have hcm := fun w => cmp_eq 5 w
            have hgr := fun o w => grd_eq 5 o w
            clear hp6 ho6 hF6 C2 HC1 HF
            go_wp2_with fail
            refine HC2.out.mono ?_
            rintro e w7 ⟨rfl, hp7, ho7⟩
            have HF7 := hidden (HF6.out.turn ho7 hp7 HF6.out.e.inv HF6.out.e.len)
            clear hp7 ho7 HC2 HF6 c6
            go_wp2_with fail
            go_roundg (kn - (i + 1))
            case measure => omega
            case rel => exact ⟨i + 1, by omega, by go_num, HF7⟩
          · have hiz : ¬ (i : Int) < (kn : Int) := by omega
            obtain rfl : kn = i := by omega
            have hwl : ws.length = kn := by have := HF.out.row.1; rw [ic_len] at this; omega
            have hall : rms K t (ws.take kn) = [] := by rw [← hwl, List.take_length, HWs.out]; exact rms_all HM.out.all
            have HF8 := HF
            rw [hall] at HF8
            clear HF hall hwl
            have CA := ask_calls b mb 1 0 t 0 _ _ [] wr HF8.out.e.pull inv_nil (ainv_start (by omega) (by omega)) (by simp)
            have eA : af [] 0 t 0 = 5 := by unfold af; rw [if_neg (by omega), if_neg (by decide), if_pos (by rw [need_nil]; omega)]
            have eB : aB [] 1 0 (fun _ => -1) t 0 = false := by unfold aB; rw [eA]; rfl
            have eN : aN [] 0 t 0 = 0 := by unfold aN; rw [if_neg (by rw [eA]; omega)]
            have eK : aK [] 1 0 (fun _ => -1) t 0 = fun _ => -1 := by unfold aK; rw [eB, if_neg (by simp)]
            rw [eA, eB, eN, eK] at CA
            have HCA := hidden CA
            clear CA eA eB eN eK
            generalize hev : errv 5 = ev at *
            have HEv := hidden hev
            clear hev
            go_wp2_with fail
            refine HCA.out.mono ?_
            rintro e w9 ⟨rfl, hp9, ho9⟩
            have HF9 := hidden (HF8.out.turn ho9 hp9 inv_nil (by simp))
            clear hp9 ho9 HCA HF8
            have CC := changed_calls b mb 1 0 _ _ [] w9 HF9.out.e.pull inv_nil
            have HCC := hidden CC
            clear CC
            go_wp2_with fail
            refine HCC.out.mono ?_
            rintro e w10 ⟨gv, rfl, hp10, hrow10, ho10⟩
            rw [chg_gone, HTn.out] at hrow10
            obtain ⟨ga, gc, rfl, -⟩ := own_wts hrow10 (by have := chg_len K (fun _ => -1) 8; have := HTn.out; omega)
            have HF10 := hidden (HF9.out.turn ho10 hp10 inv_nil (by simp))
            clear hp10 ho10 hrow10 HCC HF9
            have CNe := Need_calls b mb 1 0 t _ _ [] w10 HF10.out.e.pull inv_nil
            rw [need_nil] at CNe
            have HCN := hidden CNe
            clear CNe
            go_wp2_with fail
            refine HCN.out.mono ?_
            rintro e w11 ⟨rfl, hb11⟩
            have HF11 := hidden (HF10.out.below hb11)
            clear hb11 HF10 HCN
            have HCH := hidden (who_calls b mb 1 0 t _ _ [] w11 HF11.out.e.pull inv_nil (by simp))
            go_wp2_with fail
            refine HCH.out.mono ?_
            rintro e w12 ⟨vv, rfl, hrow12, hb12⟩
            have HF12 := hidden (HF11.out.below hb12)
            obtain ⟨va, vc, rfl, -⟩ := own_ints hrow12 (by simp [of])
            have e12 : (of [] t).length = 0 := rfl
            rw [e12]
            have HT12 := hidden (told_f 5 w12 (by omega) ((HF12.out.e.bel.cell (p := ⟨0, 0, none⟩) h0s).trans HG.out))
            rw [HEv.out] at HT12
            clear hrow12 hb12 HF11 HCH e12
            go_wp2_with fail
            refine HT12.out.mono ?_
            rintro e w13 ⟨rfl, hb13⟩
            have HF13 := hidden (HF12.out.below hb13)
            clear hb13 HT12 HF12
            go_wp2_with fail
            go_ret
            exact ⟨rfl, HF13.out.e.bel⟩
      · have d1 : decide ((i : Int) < (n0 : Int)) = false := decide_eq_false (by omega)
        have CH := hidden (who_calls b mb 1 0 t _ _ K wr HS.out.pull HS.out.inv (by have := HS.out.len; omega))
        go_wp2_with fail
        refine CH.out.mono ?_
        rintro e w3 ⟨wv, rfl, hrow, hb3⟩
        have e1 : of K t = K := of_all HM.out.all
        rw [e1] at hrow
        have HF3 : Hid (FSt w w3 b mb (fun _ => -1) K wv K.length (whoS K t)) := ⟨HS.out.below hb3, own_base hrow (Nat.zero_le _)⟩
        obtain ⟨wa, wc, rfl, -⟩ := own_ints hrow (by have := HS.out.len; omega)
        clear hrow hb3 CH HS e1
        have CC := hidden (changed_calls b mb 1 0 _ _ K w3 HF3.out.e.pull HF3.out.e.inv)
        go_wp2_with fail
        refine CC.out.mono ?_
        rintro e w4 ⟨tv, rfl, hp, hrow, ho⟩
        have HF4 := hidden (HF3.out.turn ho hp HF3.out.e.inv HF3.out.e.len)
        obtain ⟨ti, hti⟩ : ∃ ti : Nat, t = (ti : Int) + 1 := ⟨(t - 1).toNat, by omega⟩
        have HTl : Hid ((chg K (fun _ => -1) 8).length = if K = [] then 0 else 1) := chg_one (i := ti) HF3.out.e.inv (by omega) (by rw [← hti]; exact HM.out.all)
        obtain ⟨tn, htn⟩ : ∃ tn, (chg K (fun _ => -1) 8).length = tn := ⟨_, rfl⟩
        rw [htn] at hrow HTl
        obtain ⟨ta, tc, rfl, -⟩ := own_wts hrow (by have := chg_len K (fun _ => -1) 8; omega)
        have HTn := hidden htn
        clear hrow hp ho CC HF3 hti htn
        have hkl := HM.out.len
        have hle := HM.out.le
        obtain ⟨kn, hkn⟩ : ∃ kn, K.length = kn := ⟨_, rfl⟩
        rw [hkn] at HF4 hkl ⊢
        have HKn := hidden hkn
        have d3 : decide ((many : Int) < (kn : Int)) = false := decide_eq_false (by omega)
        have d3' : decide (many < kn) = false := decide_eq_false (by omega)
        have HW2 : Hid (kn = 0 ∧ many = 0 ∧ tn = 0 ∨ 0 < kn ∧ 0 < many ∧ tn = 1) := by
          by_cases hK : K = []
          · left
            refine ⟨by rw [← hkn, hK]; rfl, HM.out.none.1 hK, by have := HTl.out; rw [if_pos hK] at this; exact this⟩
          · right
            refine ⟨by rw [← hkn]; exact List.length_pos_iff.2 hK, ?_, by have := HTl.out; rw [if_neg hK] at this; exact this⟩
            have : many ≠ 0 := fun q => hK (HM.out.none.2 q)
            omega
        clear hkn
        obtain ⟨kz, f1, f2, f3, f4, f5, f6, f7, f8⟩ : ∃ kz : Bool, ((kn : Int) == 0) = kz ∧ (kn == 0) = kz ∧ ((many : Int) == 0) = kz ∧ (many == 0) = kz ∧ ((tn : Int) == 1) = !kz ∧ (tn == 1) = !kz ∧ decide ((0 : Int) < (many : Int)) = !kz ∧ decide (0 < many) = !kz := by
          rcases HW2.out with ⟨hk0, hm0, htn0⟩ | ⟨hk0, hm0, htn0⟩
          · subst hk0 hm0 htn0
            exact ⟨true, rfl, rfl, rfl, rfl, rfl, rfl, rfl, rfl⟩
          · subst htn0
            refine ⟨false, ?_, ?_, ?_, ?_, rfl, rfl, decide_eq_true (by omega), decide_eq_true hm0⟩
            · exact beq_eq_false_iff_ne.2 (by omega)
            · exact beq_eq_false_iff_ne.2 (by omega)
            · exact beq_eq_false_iff_ne.2 (by omega)
            · exact beq_eq_false_iff_ne.2 (by omega)
        clear HW2
        have HInv := hidden HF4.out.e.inv
        go_wp2_with fail
        clear f1 f2 f3 f4 f5 f6 f7 f8 d3 d3'
        have HF0 : Hid (∃ ws, Hid (ws = whoS K t) ∧ FSt w w4 b mb (fun i => need K ((i : Int) + 1)) (rms K t (ws.take 0)) (.slice wa kn wc) kn ws) := ⟨_, rfl, HF4.out⟩
        obtain ⟨ws, hws, hF0⟩ := HF0.out
        have HWs := hidden hws
        have HF0 := hidden hF0
        clear hws hF0 HF4
        go_loopg [11] kn (fun g y wr => ∃ (i : Nat), i + g = kn ∧ y = .int .i64 (i : Int) ∧ Hid (FSt w wr b mb (fun i => need K ((i : Int) + 1)) (rms K t (ws.take i)) (.slice wa kn wc) kn ws))
        case atStart => exact ⟨0, by omega, rfl, HF0⟩
        case round =>
          obtain ⟨i, hig, rfl, HF⟩ := hrel
          clear HF0
          by_cases hi : i < kn
          · have hiz : (i : Int) < (kn : Int) := by omega
            obtain ⟨a', cap', ev, hArg, -⟩ := own_ints HF.out.row (by omega)
            simp only [Value.slice.injEq] at ev
            rw [← ev.1] at hArg
            clear ev
            obtain ⟨xb, xo, rfl, hxs⟩ := hArg.at (by omega)
            have hwl : ws.length = kn := hArg.2.1
            have c0 := hxs i hi
            obtain ⟨a, ha⟩ : ∃ a, ws.getD i 0 = a := ⟨_, rfl⟩
            rw [ha] at c0
            have ha2 : ws[i]? = some a := by rw [← ha, List.getD_eq_getElem?_getD, List.getElem?_eq_getElem (by omega)]; rfl
            have hblt : xb < wr.heap.size := World.block_lt_of_cell? wr _ c0
            have HXB : Hid (∀ k, (Value.slice (some ⟨xb, xo, none⟩) kn wc).ownBlock = some k → k ∉ pblks b mb) := row_apart HF.out.e.pull HF.out.row (by decide)
            have HA2 := hidden ha2
            have HA3 := hidden ha
            have HD1 : Hid (df (rms K t (ws.take i)) a t = 0) := by rw [HWs.out] at ha2 ⊢; exact next_df HInv.out ha2
            have HD2 : Hid (df (del (rms K t (ws.take i)) a t) a t = 5) := by rw [HWs.out] at ha2 ⊢; exact gone_df HInv.out ha2 _
            have C1 := drop_calls b mb 1 0 a t _ _ (rms K t (ws.take i)) (del (rms K t (ws.take i)) a t) wr HF.out.e.pull HF.out.e.inv ⟨fun _ => dels_del _ _ _, fun q => absurd HD1.out q⟩
            rw [HD1.out, errv_zero] at C1
            have HC1 := hidden C1
            clear C1 hxs hArg ha ha2
            go_wp2_with fail
            refine HC1.out.mono ?_
            rintro e w6 ⟨rfl, hp6, ho6⟩
            have HR : Hid (rms K t (ws.take (i + 1)) = del (rms K t (ws.take i)) a t) := by rw [take_num HA2.out, rms_snoc]; exact rfl
            have hF6 := HF.out.turn ho6 hp6 (inv_del HF.out.e.inv a t) (Nat.le_trans (del_len _ a t) HF.out.e.len)
            rw [← HR.out] at hF6
            have C2 := drop_calls b mb 1 0 a t _ _ (rms K t (ws.take (i + 1))) (rms K t (ws.take (i + 1))) w6 hF6.e.pull hF6.e.inv ⟨fun q => absurd (by rw [HR.out] at q; exact q) (by rw [HD2.out]; omega), fun _ y => Iff.rfl⟩
            rw [show df (rms K t (ws.take (i + 1))) a t = 5 from by rw [HR.out]; exact HD2.out] at C2
            have HC2 := hidden C2
            have HF6 := hidden hF6
            have c6 : w6.cell? ⟨xb, xo + i, none⟩ = some (.int .i64 a) := by
              obtain ⟨a6, cap6, ev6, hArg6, -⟩ := own_ints (ho6.owns HF.out.row HXB.out) (by omega)
              simp only [Value.slice.injEq] at ev6
              rw [← ev6.1] at hArg6
              obtain ⟨b6, o6, e6, h6⟩ := hArg6.at (by omega)
              simp only [Option.some.injEq, Addr.mk.injEq, and_true] at e6
              obtain ⟨rfl, rfl⟩ := e6
              have := h6 i hi
              rw [HA3.out] at this
              exact this
            have hcm := fun w => cmp_eq 5 w
            have hgr := fun o w => grd_eq 5 o w
            clear hp6 ho6 hF6 C2 HC1 HF
            go_wp2_with fail
            refine HC2.out.mono ?_
            rintro e w7 ⟨rfl, hp7, ho7⟩
            have HF7 := hidden (HF6.out.turn ho7 hp7 HF6.out.e.inv HF6.out.e.len)
            clear hp7 ho7 HC2 HF6 c6
            go_wp2_with fail
            go_roundg (kn - (i + 1))
            case measure => omega
            case rel => exact ⟨i + 1, by omega, by go_num, HF7⟩
          · have hiz : ¬ (i : Int) < (kn : Int) := by omega
            obtain rfl : kn = i := by omega
            have hwl : ws.length = kn := by have := HF.out.row.1; rw [ic_len] at this; omega
            have hall : rms K t (ws.take kn) = [] := by rw [← hwl, List.take_length, HWs.out]; exact rms_all HM.out.all
            have HF8 := HF
            rw [hall] at HF8
            clear HF hall hwl
            have CA := ask_calls b mb 1 0 t 0 _ _ [] wr HF8.out.e.pull inv_nil (ainv_start (by omega) (by omega)) (by simp)
            have eA : af [] 0 t 0 = 5 := by unfold af; rw [if_neg (by omega), if_neg (by decide), if_pos (by rw [need_nil]; omega)]
            have eB : aB [] 1 0 (fun _ => -1) t 0 = false := by unfold aB; rw [eA]; rfl
            have eN : aN [] 0 t 0 = 0 := by unfold aN; rw [if_neg (by rw [eA]; omega)]
            have eK : aK [] 1 0 (fun _ => -1) t 0 = fun _ => -1 := by unfold aK; rw [eB, if_neg (by simp)]
            rw [eA, eB, eN, eK] at CA
            have HCA := hidden CA
            clear CA eA eB eN eK
            generalize hev : errv 5 = ev at *
            have HEv := hidden hev
            clear hev
            go_wp2_with fail
            refine HCA.out.mono ?_
            rintro e w9 ⟨rfl, hp9, ho9⟩
            have HF9 := hidden (HF8.out.turn ho9 hp9 inv_nil (by simp))
            clear hp9 ho9 HCA HF8
            have CC := changed_calls b mb 1 0 _ _ [] w9 HF9.out.e.pull inv_nil
            have HCC := hidden CC
            clear CC
            go_wp2_with fail
            refine HCC.out.mono ?_
            rintro e w10 ⟨gv, rfl, hp10, hrow10, ho10⟩
            rw [chg_gone, HTn.out] at hrow10
            obtain ⟨ga, gc, rfl, -⟩ := own_wts hrow10 (by have := chg_len K (fun _ => -1) 8; have := HTn.out; omega)
            have HF10 := hidden (HF9.out.turn ho10 hp10 inv_nil (by simp))
            clear hp10 ho10 hrow10 HCC HF9
            have CNe := Need_calls b mb 1 0 t _ _ [] w10 HF10.out.e.pull inv_nil
            rw [need_nil] at CNe
            have HCN := hidden CNe
            clear CNe
            go_wp2_with fail
            refine HCN.out.mono ?_
            rintro e w11 ⟨rfl, hb11⟩
            have HF11 := hidden (HF10.out.below hb11)
            clear hb11 HF10 HCN
            have HCH := hidden (who_calls b mb 1 0 t _ _ [] w11 HF11.out.e.pull inv_nil (by simp))
            go_wp2_with fail
            refine HCH.out.mono ?_
            rintro e w12 ⟨vv, rfl, hrow12, hb12⟩
            have HF12 := hidden (HF11.out.below hb12)
            obtain ⟨va, vc, rfl, -⟩ := own_ints hrow12 (by simp [of])
            have e12 : (of [] t).length = 0 := rfl
            rw [e12]
            have HT12 := hidden (told_f 5 w12 (by omega) ((HF12.out.e.bel.cell (p := ⟨0, 0, none⟩) h0s).trans HG.out))
            rw [HEv.out] at HT12
            clear hrow12 hb12 HF11 HCH e12
            go_wp2_with fail
            refine HT12.out.mono ?_
            rintro e w13 ⟨rfl, hb13⟩
            have HF13 := hidden (HF12.out.below hb13)
            clear hb13 HT12 HF12
            go_wp2_with fail
            go_ret
            exact ⟨rfl, HF13.out.e.bel⟩
end Go.Proofs.YtdnfliknljfkcagDoor.Empties
