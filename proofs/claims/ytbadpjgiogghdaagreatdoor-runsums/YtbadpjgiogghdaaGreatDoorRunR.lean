/-
  What is answered to the line hear, and what it leaves.
-/
import Derived.Test.YtbadpjgiogghdaaGreatDoorRunO
namespace Go.Proofs.YtbadpjgiogghdaaGreatDoor.Run
open Go.ChangeShapes Go.WideShapes Go.ChangeAt Go.RowKit Go.Proofs.YtbadpjgiogghdaaGreatDoor.Mem Go.Proofs.YtbadpjgiogghdaaGreatDoor.RN Go.Proofs.YtbadpjgiogghdaaGreatDoor.RC
set_option linter.unusedVariables false

theorem voices_snoc (K : List Int) (x : Int) : voices (K ++ [x]) = voices K ++ [((K.length : Int), x)] := by
  unfold voices
  rw [List.zipIdx_append]
  simp
theorem voices_len (K : List Int) : (voices K).length = K.length := by simp [voices]
/-- under way through levels -/
structure VSt (w wr : World) (l : VO.Vs) (v : Value) : Prop where
  bel : Below w.heap.size w wr
  own : wr.ownsRow w.heap.size 88 2 v l.length (Voice.vc l)
theorem VSt.app {w wr w' : World} {l : VO.Vs} {x y : Int} {v v' : Value} {O : Obj} (h : VSt w wr l v) (hown : w'.ownsRow w.heap.size 88 2 v' (l.length + 1) (Voice.vc l ++ [.int .i64 x, .int .i64 y])) (hg : (wr.alloc O).grownBy w' v.ownBlock) : VSt w w' (l ++ [(x, y)]) v' := by
  have hs := h.bel.size
  refine ⟨(h.bel.alloc hs O).grown hg (by simp; omega) (fun j hj => (h.own.lt j hj).1), ?_⟩
  rw [List.length_append, Voice.vc_app]
  exact hown
theorem int_snoc {L : List Int} {i : Nat} (h : i < L.length) : L.take (i + 1) = L.take i ++ [TM.dg L i] := by
  rw [TM.dg, List.getD_eq_getElem?_getD, List.getElem?_eq_getElem h, Option.getD_some, List.take_append_getElem h]
theorem lit2 {w : World} {T : TypeId} (c0 c1 : Value) : ∀ j u, [c0, c1][j]? = some u → (w.alloc (.cells #[c0, c1] T)).cell? ((⟨w.heap.size, 0, none⟩ : Addr).add j) = some u := by
  intro j u hu
  rw [add_plain, Nat.zero_add]
  have := World.cell?_alloc_mark w #[c0, c1] T (0, 0) j
  match j, hu with
  | 0, hu => simp at hu; subst hu; exact this
  | 1, hu => simp at hu; subst hu; exact this
set_option maxHeartbeats 2000000 in
set_option maxRecDepth 100000 in
theorem hear_calls (ea : Addr) (b sb wb vb lb : Nat) (mo : Option Nat) (S : Ss) (W : Ws) (w : World) (h : WAt w b W) (g : GW ea w) (hb : 10 ≤ b) (hS : SsAt w sb wb vb lb mo S) (hO : S.Ok) (hl : SLow sb wb vb lb mo b) :
    Calls Tryz.prog 62 #[.pointer (some ⟨sb, 0, none⟩), .pointer (some ⟨b, 0, none⟩)] w (LeftE ea (aHear S W) sb wb vb lb b mo w) := by
  have C1 := hidden (list_calls ea b W w h g hb)
  have hln := list_len h
  have E := hidden (fun w1 h1 g1 => end_calls ea b W.list.2 w1 h1 g1)
  have G := hidden (fun w1 (ho : Only [b] w w1) => g.only ho (by simpa using hb))
  have HS := hidden (fun w1 (ho : Only [b] w w1) => hS.words hl ho)
  have HO := hidden hO
  obtain ⟨r, hr⟩ : ∃ r, r = aHear S W := ⟨_, rfl⟩
  rw [← hr]
  unfold aHear at hr
  generalize W.list = N1 at C1 hln E hr
  obtain ⟨L, V⟩ := N1
  simp only at C1 hln E hr
  have HR := hidden hr
  have HLO := hidden hl.lo
  clear h g hb hr hS hO hl
  obtain ⟨i0, hii, hz0, hz1, hz2⟩ := info_parts Voice.infoVO
  go_enter Tryz.func62, Tryz.ntmps62
  go_wp2_with fail
  refine C1.out.mono ?_
  rintro e w1 ⟨v, rfl, hv, h1, ho1⟩
  obtain ⟨a, cap, rfl, hA, -, hcap, -⟩ := Tree.own_ints hv (by omega)
  have E' := hidden (E.out w1 h1 (G.out w1 ho1))
  have HO1 := hidden ho1
  have HS1 := hidden (HS.out w1 ho1)
  have HA := hidden hA
  obtain ⟨n, hn⟩ : ∃ n, L.length = n := ⟨_, rfl⟩
  rw [hn] at hln hA HA ⊢
  have HN := hidden hn
  clear h1 ho1 hv hA hcap hn
  go_wp2_with fail
  refine E'.out.mono ?_
  rintro e w2 ⟨he, rfl⟩
  by_cases hl : V.left
  · rw [if_pos hl, badV_eq] at he
    subst he
    have HL := hidden hl
    clear hl
    go_wp2_with fail
    go_ret2
    refine ⟨?_, mo, ?_, HO1.out.mono (by simp), .inl rfl⟩
    · rw [HR.out, if_pos HL.out]
      exact ⟨[], rfl, by simp, by simp⟩
    · rw [HR.out, if_pos HL.out]
      exact HS1.out
  · rw [if_neg hl] at he
    subst he
    have HL := hidden hl
    clear hl
    have H0 : Hid (VSt w2 w2 (voices (L.take 0)) (.slice none 0 0)) := ⟨Below.refl _ _, World.ownsRow_nil _ _ _ _⟩
    go_wp2_with fail
    go_loopg [8, 21] n (fun g u y wr => ∃ (i : Nat) (v : Value), i + g = n ∧ v = u ∧ y = .int .i64 (i : Int) ∧ Hid (VSt w2 wr (voices (L.take i)) v))
    case atStart => exact ⟨0, _, by omega, rfl, rfl, H0⟩
    case round =>
      obtain ⟨i, v, hig, rfl, rfl, HV⟩ := hrel
      by_cases hi : i < n
      · have hiz : (i : Int) < (n : Int) := by omega
        obtain ⟨bb, oo, rfl, c0⟩ := (HA.out.below HV.out.bel).1 i (by have := HN.out; omega)
        have hst := int_snoc (L := L) (i := i) (by have := HN.out; omega)
        have hvs := voices_snoc (L.take i) (TM.dg L i)
        rw [← hst, List.length_take, HN.out, Nat.min_eq_left (by omega)] at hvs
        have hvl : (voices (L.take i)).length = i := by rw [voices_len, List.length_take, HN.out]; omega
        obtain ⟨x, hx⟩ : ∃ x, TM.dg L i = x := ⟨_, rfl⟩
        rw [hx] at c0 hvs
        obtain ⟨l, hll⟩ : ∃ l, voices (L.take i) = l := ⟨_, rfl⟩
        rw [hll] at hvs HV hvl
        have HVS := hidden hvs
        have hbase := HV.out.bel.size
        clear hst hvs hx hll
        go_wp2_with (at_builtin; refine wpList_append_own _ rfl _ _ 57 rfl w2.heap.size 88 i0 _ 2 16 Tryz.underlying57 hii hz0 hz1 hz2 rfl (by decide) _ l.length (Voice.vc l) rfl (HV.out.own.alloc _) ⟨wr.heap.size, 0, none⟩ 1 1 [.int .i64 (i : Int), .int .i64 x] rfl rfl ?cc ?one ?b1 ?b2 ?b3 ?next)
        case cc => exact lit2 _ _
        case one => simp [Value.oneCell']
        case b1 => unfold maxLen; omega
        case b2 => omega
        case b3 => simp; omega
        case next =>
        intro v3 w4 hown hgrow _
        have HVn : Hid (VSt w2 w4 (voices (L.take (i + 1))) v3) := by
          rw [HVS.out]
          exact HV.out.app (by rw [hvl]; exact hown) hgrow
        clear hown hgrow hbase
        go_wp2_with fail
        go_roundg (n - (i + 1))
        case measure => omega
        case rel => exact ⟨i + 1, v3, by omega, rfl, by go_num, HVn⟩
      · have hiz : ¬ (i : Int) < (n : Int) := by omega
        obtain rfl : i = n := by omega
        have h9 := HV.out
        rw [List.take_of_length_le (by have := HN.out; omega)] at h9
        have hs9 := HS1.out.below h9.bel
        have hvl : (voices L).length ≤ 3001 := by rw [voices_len, HN.out]; exact hln
        obtain ⟨av, cv, rfl, hVA, -, hcv, -⟩ := Voice.own_vs h9.own (by omega)
        have HH := hidden (Voice.hear_calls vb _ cv mo av 2 S.sp S.f (voices L) wr hs9.vo HO.out.vo hVA)
        have HS9 := hidden hs9
        have HO9 := hidden (HO1.out.trans (Only.of_below h9.bel [b]))
        have c1 := hs9.cells.2.1
        have hsp := (VO.inv_st HO.out.vo (voices L)).sp
        have hspb : -1 ≤ VO.stS S.f S.sp (voices L) ∧ VO.stS S.f S.sp (voices L) ≤ 200 := by
          rcases hsp with ⟨_, e⟩ | ⟨e1, e2, _⟩ <;> omega
        generalize (voices L).length = nv at HH
        generalize hf : VO.hf S.f (voices L) = f at HH HR
        generalize hsS : VO.stS S.f S.sp (voices L) = sp at HH HR hspb
        generalize hsF : VO.stF S.f (voices L) = sf at HH HR
        have HSPB := hidden hspb
        clear h9 hs9 hvl hVA hcv hsp hf hsS hsF hspb
        go_wp2_with fail
        refine HH.out.mono ?_
        rintro e w5 ⟨rfl, mo', hv5, ho5, hm5⟩
        have HS5 := hidden (HS9.out.setV hv5 ho5)
        have HO5 : Hid (Only [b, wb, vb, lb] w w5) := hidden ((HO9.out.mono (by simp)).trans (ho5.mono (by simp)))
        have c5 := HS5.out.cells.2.1
        have P := hidden (Voice.speaker_calls vb sp w5 hv5.cells.2.1)
        have g5 : GW ea w5 := (G.out wr HO9.out).only ho5 (fun x hx => by
          have h2 := HLO.out.2.2.1
          simp at hx; omega)
        have I := hidden (itoa_calls ea sp w5 g5 (by have := HSPB.out; omega) (by have := HSPB.out; omega))
        have HM5 : Hid (mo' = mo ∨ ∃ m, mo' = some m ∧ w.heap.size ≤ m) := hidden (by
          rcases hm5 with h | ⟨m, h1, h2⟩
          · exact .inl h
          · exact .inr ⟨m, h1, Nat.le_trans HO9.out.2.2.2.1 h2⟩)
        clear hv5 ho5 hm5 g5
        go_wp2_with fail
        refine P.out.mono ?_
        rintro e w6 ⟨rfl, rfl⟩
        go_wp2_with fail
        refine I.out.mono ?_
        rintro e w7 ⟨rfl, hb7⟩
        have HS7 := hidden (HS5.out.below hb7)
        have HO7 := hidden (HO5.out.trans (Only.of_below hb7 [b, wb, vb, lb]))
        clear hb7
        go_wp2_with fail
        go_ret2
        refine ⟨?_, mo', ?_, HO7.out, HM5.out⟩
        · rw [HR.out, if_neg HL.out]
          have hx := itoa_len (n := sp) (by have := HSPB.out; omega) (by have := HSPB.out; omega)
          by_cases h0 : f = 0
          · subst h0
            rw [An.of_ok rfl]
            exact ⟨_, rfl, by simp, hx⟩
          · simp only
            rw [An.of_err h0]
            exact ⟨_, by rw [Voice.errv_pos h0]; rfl, by simp, hx⟩
        · rw [HR.out, if_neg HL.out]
          exact HS7.out
end Go.Proofs.YtbadpjgiogghdaaGreatDoor.Run

