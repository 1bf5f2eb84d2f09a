/-
  What is answered to the lines gone, take and hear, and what they leave.
-/
import Derived.Test.YtbadpjgiogghdaaGreatDoorRunO
namespace Go.Proofs.YtbadpjgiogghdaaGreatDoor.Run
open Go.ChangeShapes Go.WideShapes Go.ChangeAt Go.RowKit Go.Proofs.YtbadpjgiogghdaaGreatDoor.Mem Go.Proofs.YtbadpjgiogghdaaGreatDoor.RN Go.Proofs.YtbadpjgiogghdaaGreatDoor.RC
set_option linter.unusedVariables false

theorem perr_pos {e : Nat} (h : e ≠ 0) : Pack.errv e = .iface 115 (.int .i64 (e : Int)) := by simp [Pack.errv, h]
set_option maxHeartbeats 2000000 in
set_option maxRecDepth 100000 in
theorem gone_calls (ea : Addr) (b sb wb vb lb : Nat) (mo : Option Nat) (S : Ss) (W : Ws) (w : World) (h : WAt w b W) (g : GW ea w) (hb : 10 ≤ b) (hS : SsAt w sb wb vb lb mo S) (hO : S.Ok) (hl : SLow sb wb vb lb mo b) :
    Calls Tryz.prog 64 #[.pointer (some ⟨sb, 0, none⟩), .pointer (some ⟨b, 0, none⟩)] w (LeftE ea (aGone S W) sb wb vb lb b mo w) := by
  have C1 := hidden (number_calls ea b W w h g hb)
  have E := hidden (fun w1 h1 g1 => end_calls ea b W.number.2 w1 h1 g1)
  have G := hidden (fun w1 (ho : Only [b] w w1) => g.only ho (by simpa using hb))
  have HS := hidden (fun w1 (ho : Only [b] w w1) => hS.words hl ho)
  have HO := hidden hO
  obtain ⟨r, hr⟩ : ∃ r, r = aGone S W := ⟨_, rfl⟩
  rw [← hr]
  unfold aGone at hr
  generalize W.number = N1 at C1 E hr
  obtain ⟨y, V⟩ := N1
  simp only at C1 E hr
  have HR := hidden hr
  clear h g hb hr hS hO hl
  go_enter Tryz.func64, Tryz.ntmps64
  go_wp2_with fail
  refine C1.out.mono ?_
  rintro e w1 ⟨rfl, h1, ho1⟩
  have E' := hidden (E.out w1 h1 (G.out w1 ho1))
  have HO1 := hidden ho1
  have hs1 := HS.out w1 ho1
  obtain ⟨c0, c1, c2⟩ := hs1.cells
  have A := hidden (Layer.take_calls lb 1 S.nw S.la y S.br true 0 0 0 0 false none 0 0 w1 hs1.ly)
  rw [show PM.fault 0 0 0 0 0 = 0 by decide] at A
  have HS1 := hidden hs1
  clear h1 ho1 hs1 c0 c1
  go_wp2_with fail
  refine E'.out.mono ?_
  rintro e w2 ⟨he, rfl⟩
  by_cases hl : V.left
  · rw [if_pos hl, badV_eq] at he
    subst he
    have HL := hidden hl
    clear hl
    go_wp2_with fail
    go_ret2
    refine ⟨?_, mo, ?_, HO1.out.mono (by simp), .inl rfl⟩
    · rw [HR.out, if_pos HL.out]
      exact ⟨[], rfl, by simp, by simp⟩
    · rw [HR.out, if_pos HL.out]
      exact HS1.out
  · rw [if_neg hl] at he
    subst he
    have HL := hidden hl
    clear hl
    go_wp2_with fail
    refine A.out.mono ?_
    rintro e w3 ⟨rfl, hw3, ho3⟩
    have HS3 := hidden (HS1.out.setL hw3 ho3)
    have HO3 : Hid (Only [b, wb, vb, lb] w w3) := hidden ((HO1.out.mono (by simp)).trans (ho3.mono (by simp)))
    have Y := hidden (fun x W => yesOrNo_calls x W)
    unfold take1 at HR
    generalize hf : LM.tkf S.la y true 0 = f
    generalize hi : LM.tkx 1 S.nw S.la y S.br true 0 0 false = is
    rw [hf, hi] at HR
    clear hw3 ho3
    go_wp2_with fail
    refine (Y.out _ _).mono ?_
    rintro e w4 ⟨rfl, rfl⟩
    go_wp2_with fail
    go_ret2
    refine ⟨?_, mo, ?_, HO3.out, .inl rfl⟩
    · rw [HR.out, if_neg HL.out]
      simp only
      by_cases h0 : f = 0
      · subst h0
        rw [An.of_ok rfl]
        exact ⟨_, rfl, by simp, by cases is <;> simp [yesNo]⟩
      · rw [An.of_err h0]
        exact ⟨_, by rw [perr_pos h0]; rfl, by simp, by cases is <;> simp [yesNo]⟩
    · rw [HR.out, if_neg HL.out]
      exact HS3.out
theorem and_seq (n : Int) : bits .and .i64 n 65535 = n % 65536 := by
  have h : (BitVec.ofInt 64 65535).toNat = 2 ^ 16 - 1 := by decide
  have key : (BitVec.ofInt 64 n &&& BitVec.ofInt 64 65535).toNat = (n % ((2 ^ 64 : Nat) : Int)).toNat % 2 ^ 16 := by
    rw [BitVec.toNat_and, BitVec.toNat_ofInt, h, Nat.and_two_pow_sub_one_eq_mod]
  show IntKind.i64.wrap ((BitVec.ofInt 64 n &&& BitVec.ofInt 64 65535).toNat : Nat) = n % 65536
  rw [key, IntKind.wrap_i64]
  omega
set_option maxHeartbeats 2000000 in
set_option maxRecDepth 100000 in
theorem take_calls (ea : Addr) (b sb wb vb lb : Nat) (mo : Option Nat) (S : Ss) (W : Ws) (w : World) (h : WAt w b W) (g : GW ea w) (hb : 10 ≤ b) (hS : SsAt w sb wb vb lb mo S) (hO : S.Ok) (hl : SLow sb wb vb lb mo b) :
    Calls Tryz.prog 63 #[.pointer (some ⟨sb, 0, none⟩), .pointer (some ⟨b, 0, none⟩)] w (LeftE ea (aTake S W) sb wb vb lb b mo w) := by
  have C1 := hidden (number_calls ea b W w h g hb)
  have C2 := hidden (fun w1 h1 g1 => number_calls ea b W.number.2 w1 h1 g1 hb)
  have C3 := hidden (fun w1 h1 g1 => flag_calls ea b W.number.2.number.2 w1 h1 g1 hb)
  have E := hidden (fun w1 h1 g1 => end_calls ea b W.number.2.number.2.flag.2 w1 h1 g1)
  have G := hidden (fun w1 (ho : Only [b] w w1) => g.only ho (by simpa using hb))
  have HS := hidden (fun w1 (ho : Only [b] w w1) => hS.words hl ho)
  have HO := hidden hO
  obtain ⟨r, hr⟩ : ∃ r, r = aTake S W := ⟨_, rfl⟩
  rw [← hr]
  unfold aTake at hr
  generalize W.number.2.number.2.flag = N3 at C3 E hr
  generalize W.number.2.number = N2 at C2 C3 hr
  generalize W.number = N1 at C1 C2 hr
  obtain ⟨y, V1⟩ := N1
  obtain ⟨l, V2⟩ := N2
  obtain ⟨st, V⟩ := N3
  simp only at C1 C2 C3 E hr
  have HR := hidden hr
  have hand := and_seq y
  clear h g hb hr hS hO hl
  go_enter Tryz.func63, Tryz.ntmps63
  go_wp2_with fail
  refine C1.out.mono ?_
  rintro e w1 ⟨rfl, h1, ho1⟩
  have C2' := hidden (C2.out w1 h1 (G.out w1 ho1))
  have HO1 := hidden ho1
  clear h1 ho1
  go_wp2_with fail
  refine C2'.out.mono ?_
  rintro e w2 ⟨rfl, h2, ho2⟩
  have HO2 := hidden (HO1.out.trans ho2)
  have C3' := hidden (C3.out w2 h2 (G.out w2 HO2.out))
  clear h2 ho2
  go_wp2_with fail
  refine C3'.out.mono ?_
  rintro e w3 ⟨rfl, h3, ho3⟩
  have HOa := hidden (HO2.out.trans ho3)
  have E' := hidden (E.out w3 h3 (G.out w3 HOa.out))
  have hs3 := HS.out w3 HOa.out
  obtain ⟨c0, c1, c2⟩ := hs3.cells
  have HSa := hidden hs3
  clear h3 ho3 hs3 c0 c1
  go_wp2_with fail
  refine E'.out.mono ?_
  rintro e w4 ⟨he, rfl⟩
  by_cases hl : V.left
  · rw [if_pos hl, badV_eq] at he
    subst he
    have HL := hidden hl
    clear hl
    go_wp2_with fail
    go_ret2
    refine ⟨?_, mo, ?_, HOa.out.mono (by simp), .inl rfl⟩
    · rw [HR.out, if_pos HL.out]
      exact ⟨[], rfl, by simp, by simp⟩
    · rw [HR.out, if_pos HL.out]
      exact HSa.out
  · rw [if_neg hl] at he
    subst he
    have HL := hidden hl
    clear hl
    obtain ⟨q, hq⟩ : ∃ q, y % 65536 = q := ⟨_, rfl⟩
    rw [hq] at hand HR
    have A : Hid (∀ W, Layer.LayerAt W lb 1 S.nw S.la S.br → _) := hidden (fun W hW => Layer.take_calls lb 1 S.nw S.la y S.br false q 0 l 0 st none 0 0 W hW)
    go_wp2_with fail
    obtain ⟨wa, hwa⟩ : ∃ x, w4.alloc (.cells #[.int .i64 q, .int .i64 0, .int .i64 l, .int .i64 0, .bool st, .slice none 0 0] 92) = x := ⟨_, rfl⟩
    rw [hwa]
    have HSb : Hid (SsAt wa sb wb vb lb mo S) := by rw [← hwa]; exact HSa.out.below ((Below.refl _ _).alloc (Nat.le_refl _) _)
    have HOb : Hid (Only [b] w wa) := by rw [← hwa]; exact HOa.out.alloc _
    have hbx : wa.heap[w4.heap.size]? = some (.cells #[.int .i64 q, .int .i64 0, .int .i64 l, .int .i64 0, .bool st, .slice none 0 0] 92 (0, 0)) := by rw [← hwa]; exact heap_alloc_new _ _
    obtain ⟨pb, hpb⟩ : ∃ x, w4.heap.size = x := ⟨_, rfl⟩
    rw [hpb] at hbx ⊢
    have hpl : lb ≠ pb := by have := HSa.out.ly.lt; rw [hpb] at this; omega
    generalize hf : PM.fault q 0 l 0 0 = pf
    have A2 : Hid (∀ W, Layer.LayerAt W lb 1 S.nw S.la S.br → Calls Tryz.prog 102 #[.pointer (some ⟨lb, 0, none⟩), .agg #[.int .i64 y, .bool false, .int .i64 q, .int .i64 0, .int .i64 l, .int .i64 0, .bool st, .slice none 0 0]] W fun e w' => e = .returned (.tuple #[.bool (LM.tkx 1 S.nw S.la y S.br false pf l st), Pack.errv (LM.tkf S.la y false pf)]) ∧ Layer.LayerAt w' lb 1 (LM.tkN 1 S.nw S.la y S.br false pf l st) (LM.tkL S.la y false pf) (LM.tkB 1 S.nw S.la y S.br false pf l st) ∧ Only [lb] W w') := hidden (fun W hW => by rw [← hf]; exact A.out W hW)
    have HRR : Hid (r = if V.left = true then (An.bad, S) else take1 S y false pf l st) := hidden (by rw [← hf]; exact HR.out)
    have hcells : ∀ w' : World, w'.heap[sb]? = wa.heap[sb]? → w'.heap[pb]? = wa.heap[pb]? → w'.cell? ⟨sb, 2, none⟩ = some (.pointer (some ⟨lb, 0, none⟩)) ∧ w'.cell? ⟨pb, 0, none⟩ = some (.int .i64 q) ∧ w'.cell? ⟨pb, 1, none⟩ = some (.int .i64 0) ∧ w'.cell? ⟨pb, 2, none⟩ = some (.int .i64 l) ∧ w'.cell? ⟨pb, 3, none⟩ = some (.int .i64 0) ∧ w'.cell? ⟨pb, 4, none⟩ = some (.bool st) ∧ w'.cell? ⟨pb, 5, none⟩ = some (.slice none 0 0) := fun w' e1 e2 => by
      have hb2 := HSb.out.box
      rw [← e1] at hb2
      have hb3 := hbx
      rw [← e2] at hb3
      refine ⟨?_, ?_, ?_, ?_, ?_, ?_, ?_⟩ <;> simp [World.cell?, hb2, hb3]
    have hsl : sb ≠ lb := HSb.out.ne.2.2.1
    have hS0 : wa.drew.cell? ⟨sb, 2, none⟩ = some (.pointer (some ⟨lb, 0, none⟩)) ∧ wa.drew.cell? ⟨pb, 0, none⟩ = some (.int .i64 q) ∧ wa.drew.cell? ⟨pb, 1, none⟩ = some (.int .i64 0) ∧ wa.drew.cell? ⟨pb, 2, none⟩ = some (.int .i64 l) ∧ wa.drew.cell? ⟨pb, 3, none⟩ = some (.int .i64 0) ∧ wa.drew.cell? ⟨pb, 4, none⟩ = some (.bool st) ∧ wa.drew.cell? ⟨pb, 5, none⟩ = some (.slice none 0 0) := hcells wa.drew rfl rfl
    unfold take1 at HRR
    have A' : Hid (∀ k, Calls Tryz.prog 102 #[.pointer (some ⟨lb, 0, none⟩), .agg #[.int .i64 y, .bool false, .int .i64 q, .int .i64 0, .int .i64 l, .int .i64 0, .bool st, .slice none 0 0]] (wa.drewN k) fun e w' => e = .returned (.tuple #[.bool (LM.tkx 1 S.nw S.la y S.br false pf l st), Pack.errv (LM.tkf S.la y false pf)]) ∧ (w'.cell? ⟨sb, 2, none⟩ = some (.pointer (some ⟨lb, 0, none⟩)) ∧ w'.cell? ⟨pb, 0, none⟩ = some (.int .i64 q) ∧ w'.cell? ⟨pb, 1, none⟩ = some (.int .i64 0) ∧ w'.cell? ⟨pb, 2, none⟩ = some (.int .i64 l) ∧ w'.cell? ⟨pb, 3, none⟩ = some (.int .i64 0) ∧ w'.cell? ⟨pb, 4, none⟩ = some (.bool st) ∧ w'.cell? ⟨pb, 5, none⟩ = some (.slice none 0 0)) ∧ Hid (Layer.LayerAt w' lb 1 (LM.tkN 1 S.nw S.la y S.br false pf l st) (LM.tkL S.la y false pf) (LM.tkB 1 S.nw S.la y S.br false pf l st) ∧ Only [lb] wa w')) := hidden (fun k => (A2.out (wa.drewN k) HSb.out.ly).mono (by
      rintro e w' ⟨rfl, h1, h2⟩
      have h3 : Only [lb] wa w' := h2
      exact ⟨rfl, hcells w' (h3.2.2.2.2 sb (lt_of_block HSb.out.box) (by simpa using hsl)) (h3.2.2.2.2 pb (lt_of_block hbx) (by simpa using fun e => hpl e.symm)), hidden ⟨h1, h3⟩⟩))
    generalize hff : LM.tkf S.la y false pf = f at A' HRR
    generalize hii : LM.tkx 1 S.nw S.la y S.br false pf l st = is at A' HRR
    clear hcells hwa hbx hpl hsl hf hff hii hpb
    go_region_held3 (fun w' => w'.cell? ⟨sb, 2, none⟩ = some (.pointer (some ⟨lb, 0, none⟩)) ∧ w'.cell? ⟨pb, 0, none⟩ = some (.int .i64 q) ∧ w'.cell? ⟨pb, 1, none⟩ = some (.int .i64 0) ∧ w'.cell? ⟨pb, 2, none⟩ = some (.int .i64 l) ∧ w'.cell? ⟨pb, 3, none⟩ = some (.int .i64 0) ∧ w'.cell? ⟨pb, 4, none⟩ = some (.bool st) ∧ w'.cell? ⟨pb, 5, none⟩ = some (.slice none 0 0)) (with_reducible assumption) (first | (go_at_call 102; refine (A'.out _).mono ?_; rintro e w5 ⟨rfl, hS5, HL5⟩))
    have Y := hidden (fun x W => yesOrNo_calls x W)
    have HS3 := hidden (HSb.out.setL HL5.out.1 HL5.out.2)
    have HO3 : Hid (Only [b, wb, vb, lb] w w5) := hidden ((HOb.out.mono (by simp)).trans (HL5.out.2.mono (by simp)))
    clear hS0 hS5
    go_wp2_with fail
    refine (Y.out _ _).mono ?_
    rintro e w6 ⟨rfl, rfl⟩
    go_wp2_with fail
    go_ret2
    refine ⟨?_, mo, ?_, HO3.out, .inl rfl⟩
    · rw [HRR.out, if_neg HL.out]
      simp only
      by_cases h0 : f = 0
      · subst h0
        rw [An.of_ok rfl]
        exact ⟨_, rfl, by simp, by cases is <;> simp [yesNo]⟩
      · rw [An.of_err h0]
        exact ⟨_, by rw [perr_pos h0]; rfl, by simp, by cases is <;> simp [yesNo]⟩
    · rw [HRR.out, if_neg HL.out]
      exact HS3.out
end Go.Proofs.YtbadpjgiogghdaaGreatDoor.Run

