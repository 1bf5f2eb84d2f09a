/-
  The walk of the Go function FrameBack: it returns true at any frame, any place, any byte and any number. It changes nothing that was there. Its condition: package errors' variable errorType is as its text lays it.
-/
import Derived.Test.YtjhfjkacfnccdacDoorFrameD
import Derived.Test.YtjhfjkacfnccdacDoorPackW
import Derived.Test.YtjhfjkacfnccdacDoorTold
namespace Go.Proofs.YtjhfjkacfnccdacDoor.FBack
open Go.ChangeShapes Go.WideShapes Go.ChangeAt Go.RowKit Go.Proofs.YtjhfjkacfnccdacDoor.PM Go.Proofs.YtjhfjkacfnccdacDoor.Mem Go.Proofs.YtjhfjkacfnccdacDoor.Pack Go.Proofs.YtjhfjkacfnccdacDoor.FM Go.Proofs.YtjhfjkacfnccdacDoor.Frame
set_option linter.unusedVariables false

theorem same_is (e : Nat) (w : World) (he : e ≤ 100) (h0 : e ≠ 0) (hg : w.cell? ⟨0, 0, none⟩ = some (.iface 81 (.agg #[.pointer (some ⟨1, 29, none⟩)]))) :
    Calls Tryd.prog 7 #[.iface 49 (.int .i64 (e : Int)), .int .i64 (e : Int)] w fun ev w' => ev = .returned (.bool true) ∧ Below w.heap.size w w' := by
  refine (Told.same_err (e : Int) (e : Int) w (by omega) (by omega) hg).mono ?_
  rintro ev w' ⟨rfl, hb⟩
  exact ⟨by simp, hb⟩
theorem lt_of_cell {w : World} {v : Value} (h : w.cell? ⟨0, 0, none⟩ = some v) : 0 < w.heap.size := by
  rcases Nat.eq_zero_or_pos w.heap.size with h0 | h'
  · simp [World.cell?, h0] at h
  · exact h'
/-- nothing that was there has changed, and f is in its variable -/
def St (w wx : World) (t o e p : Int) (bv : Value) : Prop := Below w.heap.size w wx ∧ FBox wx w.heap.size t o e p bv
theorem St.new (w : World) (t o e p : Int) (bv : Value) : St w (w.alloc (.cells #[.int .i64 t, .int .i64 o, .int .i64 e, .int .i64 p, bv] 24)) t o e p bv := ⟨(Below.refl _ _).alloc (Nat.le_refl _) _, FBox.new w t o e p bv⟩
theorem St.next {w wx wy : World} {t o e p : Int} {bv : Value} (h : St w wx t o e p bv) (hb : Below wx.heap.size wx wy) : St w wy t o e p bv := ⟨h.1.trans (hb.mono h.1.size), h.2.below hb h.2.lt⟩
/-- and what was read is in its own, G -/
def S2 (w wx : World) (G : Nat) (t o e p : Int) (bv bv2 : Value) : Prop := St w wx t o e p bv ∧ FBox wx G t o e p bv2 ∧ w.heap.size < G
theorem S2.next {w wx wy : World} {G : Nat} {t o e p : Int} {bv bv2 : Value} (h : S2 w wx G t o e p bv bv2) (hb : Below wx.heap.size wx wy) : S2 w wy G t o e p bv bv2 := ⟨h.1.next hb, h.2.1.below hb h.2.1.lt, h.2.2⟩
theorem S2.new {w wx : World} {t o e p : Int} {bv : Value} (h : St w wx t o e p bv) (bv2 : Value) : S2 w (wx.alloc (.cells #[.int .i64 t, .int .i64 o, .int .i64 e, .int .i64 p, bv2] 24)) wx.heap.size t o e p bv bv2 :=
  ⟨h.next ((Below.refl _ _).alloc (Nat.le_refl _) _), FBox.new _ _ _ _ _ _, h.2.lt⟩
theorem fact_ok : rfault (head 7 0 0 0 false ++ []) = 0 := by decide

theorem pack7 (W : World) : Calls Tryd.prog 14 #[.agg #[.int .i64 7, .int .i64 0, .int .i64 0, .int .i64 0, .bool false, .slice none 0 0]] W fun e w' => ∃ g, e = .returned (.tuple #[.slice (some ⟨g, 0, none⟩) 8 8, .nilIface]) ∧ Arg w' (some ⟨g, 0, none⟩) 8 (head 7 0 0 0 false ++ []) ∧ Below W.heap.size W w' := by
  refine (encode_good 7 0 0 0 false none 0 0 [] W ⟨Bys.nil _ _, rfl, by omega⟩ (fun _ => ⟨rfl, rfl⟩) (by omega) (by omega) (by omega) (by omega) (by omega)).mono ?_
  rintro e w' ⟨g, rfl, _, hR, hb⟩
  exact ⟨g, rfl, ⟨hR.bys (by decide), rfl, by omega⟩, hb⟩
theorem frame7 (g : Nat) (W : World) (h : Arg W (some ⟨g, 0, none⟩) 8 (head 7 0 0 0 false ++ [])) : Calls Tryd.prog 9 #[.agg #[.int .i64 1, .int .i64 0, .int .i64 0, .int .i64 0, .slice (some ⟨g, 0, none⟩) 8 8]] W fun e w' => ∃ g', e = .returned (.tuple #[.slice (some ⟨g', 0, none⟩) 18 18, .nilIface]) ∧ w'.cell? ⟨g', 0, none⟩ = some (.int .u8 70) ∧ Below W.heap.size W w' := by
  refine (fencode_good 1 0 0 0 (some ⟨g, 0, none⟩) 8 8 _ W h (fun e => by simp at e) (by omega) (by omega) (by omega) (by omega) (by omega) (by omega) fact_ok).mono ?_
  rintro e w' ⟨g', rfl, _, hR, hb⟩
  exact ⟨g', rfl, hR.cell 0 (by rw [fbytes_len]; omega), hb⟩

theorem same_self (t o e p : Int) (a b : Option Addr) (n m cap cap' : Nat) (L : List Nat) (w : World) (hA : Arg w a n L) (hB : Arg w b m L) :
    Calls Tryd.prog 12 #[.agg #[.int .i64 t, .int .i64 o, .int .i64 e, .int .i64 p, .slice a n cap], .agg #[.int .i64 t, .int .i64 o, .int .i64 e, .int .i64 p, .slice b m cap']] w fun ev w' => ev = .returned (.bool true) ∧ Below w.heap.size w w' := by
  refine (same_fr t o e p t o e p a b n m cap cap' L L w hA hB).mono ?_
  rintro ev w' ⟨rfl, hb⟩
  exact ⟨by simp, hb⟩
/-- a byte of what was written changed: Read tells the sum -/
theorem read_changed (t o e p : Nat) (B : List Nat) (i m n : Nat) (g cap : Nat) (W : World) (base : Nat) (h2 : t ≤ 8) (h3 : o ≤ 15) (h4 : e ≤ 65535) (h5 : p ≤ 64) (hB : ∀ c ∈ B, c < 256) (hn : B.length = n) (hl : n ≤ 1008) (hi : i < 10 + n) (hm : m < 256)
    (hne : (fbytes t o e p B).getD i 0 ≠ m) (hown : W.ownsRow base 5 1 (.slice (some ⟨g, 0, none⟩) (10 + n) cap) (10 + n) (cellsOf ((fbytes t o e p B).set i m))) :
    Calls Tryd.prog 11 #[.slice (some ⟨g, 0, none⟩) (10 + n) cap] W fun ev w' => ∃ a' m' c', ev = .returned (.tuple #[.agg #[.int .i64 0, .int .i64 0, .int .i64 0, .int .i64 0, .slice a' m' c'], .iface 49 (.int .i64 9)]) ∧ Below W.heap.size W w' := by
  have hI := inner_lt h2 h3 h4 h5 hB
  have hlen : (fhead t o e p ++ B).length = 6 + n := by simp [fhead]; omega
  have h9 := changed1 (fhead t o e p ++ B) i m hI (by omega) (by omega) hm hne
  have hb9 : bfault ((fbytes t o e p B).set i m) = 9 := by
    unfold bfault fbytes
    rw [if_neg (by omega), h9]
  have hL : ∀ c ∈ (fbytes t o e p B).set i m, c < 256 := by
    intro c hc
    rcases List.mem_or_eq_of_mem_set hc with h | rfl
    · exact sealed_lt hI c h
    · exact hm
  obtain ⟨a, k, e1, hA, _, hk, _⟩ := own_slice hown hL (by omega)
  simp only [Value.slice.injEq, true_and] at e1
  obtain ⟨rfl, rfl⟩ := e1
  refine (fread_all _ _ _ _ W hA hk (by omega)).mono ?_
  rintro ev w' ⟨a', m', c', rfl, hb, _⟩
  rw [hb9, bfr_bad (by omega)]
  exact ⟨a', m', c', rfl, hb⟩

set_option maxHeartbeats 4000000 in
set_option maxRecDepth 100000 in
theorem walk (t o e p : Int) (a : Option Addr) (n cap : Nat) (B : List Nat) (at_ : Int) (to : Nat) (times : Int) (w : World) (hg : w.cell? ⟨0, 0, none⟩ = some (.iface 81 (.agg #[.pointer (some ⟨1, 29, none⟩)])))
    (h : Arg w a n B) (hn : a = none → n = 0 ∧ cap = 0) (hc : n ≤ cap) (hto : to < 256) :
    Calls Tryd.prog 4 #[.agg #[.int .i64 t, .int .i64 o, .int .i64 e, .int .i64 p, .slice a n cap], .int .i64 at_, .int .u8 (to : Int), .int .i64 times] w fun ev w' => ev = .returned (.bool true) ∧ Below w.heap.size w w' := by
  have HA := hidden h
  have HG := hidden hg
  have HN := hidden hn
  have HP7 := hidden pack7
  have HF7 := hidden frame7
  clear h hg hn
  by_cases hf : ffault t o e p B = 0
  · obtain ⟨t, o, e, p, rfl, rfl, rfl, rfl, h1, h2, h3, h4, h5, h6⟩ := ffault_zero hf
    have HE := hidden (fun W h => fencode_good t o e p a n cap B W h HN.out hc h1 h2 h3 h4 h5 h6)
    have hl : n ≤ 1008 := by have := (rfault_len h6).2; have := HA.out.2.1; omega
    have hl8 : 8 ≤ n := by have := (rfault_len h6).1; have := HA.out.2.1; omega
    clear hf
    go_enter Tryd.func4, Tryd.ntmps4
    go_wp2_with fail
    refine (HP7.out _).mono ?_
    rintro ev w1 ⟨g1, rfl, hA1, hb1⟩
    have HX1 := hidden ((St.new w t o e p (.slice a n cap)).next hb1)
    have HA1 := hidden hA1
    clear hA1 hb1 HP7
    go_wp2_with fail
    refine (HF7.out g1 _ HA1.out).mono ?_
    rintro ev w2 ⟨g2, rfl, c70, hb2⟩
    have HX2 := hidden (HX1.out.next hb2)
    clear hb2 HX1 HA1 HF7
    obtain ⟨x0, x1, x2, x3, x4⟩ := HX2.out.2.cells
    go_wp2_with fail
    refine (HE.out _ (HA.out.below HX2.out.1)).mono ?_
    rintro ev w3 ⟨g3, rfl, hg3, hR3, hb3⟩
    have HX3 := hidden (HX2.out.next hb3)
    have HR3 := hidden hR3
    clear hb3 hR3 HX2 x0 x1 x2 x3 x4 HE c70 hg3
    have HB : Hid (∀ c ∈ B, c < 256) := HA.out.1.1
    have HI : Hid (∀ c ∈ fhead t o e p ++ B, c < 256) := inner_lt h2 h3 h4 h5 HB.out
    have HQ : Hid (∀ W, Row W g3 (fbytes t o e p B) → Arg W (some ⟨g3, 0, none⟩) (10 + n) (fbytes t o e p B)) := fun W hR => ⟨hR.bys (sealed_lt HI.out), by rw [fbytes_len, HA.out.2.1], by omega⟩
    have HRD : Hid (∀ W, Row W g3 (fbytes t o e p B) → Calls Tryd.prog 11 #[.slice (some ⟨g3, 0, none⟩) (10 + n) (10 + n)] W fun ev w' => ∃ a' m c', ev = .returned (.tuple #[.agg #[.int .i64 (t : Int), .int .i64 (o : Int), .int .i64 (e : Int), .int .i64 (p : Int), .slice a' m c'], .nilIface]) ∧ Below W.heap.size W w' ∧ Arg w' a' m B) := fun W hR => by
      obtain ⟨r1, r2⟩ := read_back h1 h2 h3 h4 h5 h6 HB.out
      refine (fread_all _ _ _ (fbytes t o e p B) W (HQ.out W hR) (Nat.le_refl _) (by omega)).mono ?_
      rintro ev w' ⟨a', m, c', rfl, hb, hA, _⟩
      rw [r2] at hA
      rw [r1, r2]
      exact ⟨a', m, c', rfl, hb, hA⟩
    go_wp2_with fail
    refine (HRD.out _ HR3.out).mono ?_
    rintro ev w4 ⟨a4, m4, k4, rfl, hb4, hA4⟩
    have HX4 := hidden (S2.new (HX3.out.next hb4) (.slice a4 m4 k4))
    have HR4 : Hid (Row (w4.alloc (.cells #[.int .i64 (t : Int), .int .i64 (o : Int), .int .i64 (e : Int), .int .i64 (p : Int), .slice a4 m4 k4] 24)) g3 (fbytes t o e p B)) := Row.alloc ((hb4.block g3 (lt_of_block HR3.out)).trans HR3.out) _
    have HS4 := hidden (hA4.below ((Below.refl _ _).alloc (Nat.le_refl _) (.cells #[.int .i64 (t : Int), .int .i64 (o : Int), .int .i64 (e : Int), .int .i64 (p : Int), .slice a4 m4 k4] 24)))
    clear hb4 hA4 HX3 HR3
    obtain ⟨x0, x1, x2, x3, x4⟩ := HX4.out.1.2.cells
    obtain ⟨y0, y1, y2, y3, y4⟩ := HX4.out.2.1.cells
    go_wp2_with fail
    refine (same_self t o e p a4 a m4 n k4 cap B _ HS4.out (HA.out.below HX4.out.1.1)).mono ?_
    rintro ev w5 ⟨rfl, hb5⟩
    have HX5 := hidden (HX4.out.next hb5)
    have HR5 : Hid (Row w5 g3 (fbytes t o e p B)) := (hb5.block g3 (lt_of_block HR4.out)).trans HR4.out
    clear hb5 HX4 HR4 HS4 x0 x1 x2 x3 x4 y0 y1 y2 y3 y4 HRD
    obtain ⟨i0, hii, hz0, hz1, hz2⟩ := info_parts info5
    generalize hC : decide (0 ≤ at_ ∧ at_ < 10 + (n : Int) ∧ (fbytes t o e p B).getD at_.toNat 0 ≠ to) = C at *
    have HC := hidden hC
    clear hC
    have hlB := HA.out.2.1
    go_upto_region 12 with fail
    go_cut [89] from 25 (fun x wx => x = .bool C ∧ wx = w5)
    case first =>
      by_cases p1 : 0 ≤ at_
      · obtain ⟨i, rfl⟩ : ∃ i : Nat, at_ = (i : Int) := ⟨at_.toNat, by omega⟩
        by_cases p2 : i < 10 + n
        · have c0 := HR5.out.cell i (by rw [fbytes_len, hlB]; exact p2)
          have hC := HC.out
          rw [Int.toNat_natCast] at hC
          have d1 : decide ((0 : Int) ≤ (i : Int)) = true := by simp
          have d2 : decide ((i : Int) < 10 + (n : Int)) = true := by simp; omega
          by_cases p3 : (fbytes t o e p B).getD i 0 = to
          · rw [p3] at c0 hC
            have HC' := hidden hC
            clear hC
            go_wp2_with fail
            go_meet
            exact ⟨congrArg Value.bool (by rw [← HC'.out]; simp), rfl⟩
          · generalize (fbytes t o e p B).getD i 0 = y at *
            have d3 : ((y : Int) == (to : Int)) = false := by rw [beq_eq_false_iff_ne]; omega
            have HC' := hidden hC
            clear hC
            go_wp2_with fail
            go_meet
            exact ⟨congrArg Value.bool (by rw [← HC'.out, decide_eq_true (p := 0 ≤ (i : Int) ∧ (i : Int) < 10 + (n : Int) ∧ y ≠ to) ⟨by omega, by omega, p3⟩]; simp; omega), rfl⟩
        · have d1 : decide ((0 : Int) ≤ (i : Int)) = true := by simp
          have d2 : decide ((i : Int) < 10 + (n : Int)) = false := by simp; omega
          go_wp2_with fail
          go_meet
          exact ⟨congrArg Value.bool (by rw [← HC.out]; symm; apply decide_eq_false; omega), rfl⟩
      · have d1 : decide (0 ≤ at_) = false := by simpa using p1
        go_wp2_with fail
        go_meet
        exact ⟨congrArg Value.bool (by rw [← HC.out]; symm; apply decide_eq_false; omega), rfl⟩
    case rest =>
    obtain ⟨rfl, rfl⟩ := hcut
    go_upto_if 89 with fail
    go_cut [18, 19, 20, 21] from 25 (fun x18 x19 x20 x21 wx => Hid (S2 w wx w4.heap.size t o e p (.slice a n cap) (.slice a4 m4 k4) ∧ Row wx g3 (fbytes t o e p B)))
    case first =>
      cases C with
      | false =>
        go_wp2_with fail
        go_meet
        exact ⟨HX5.out, HR5.out⟩
      | true =>
        obtain ⟨p1, p2, p3⟩ := of_decide_eq_true HC.out
        obtain ⟨i, rfl⟩ : ∃ i : Nat, at_ = (i : Int) := ⟨at_.toNat, by omega⟩
        rw [Int.toNat_natCast] at p3
        have HZ := hidden p3
        have hi : i < 10 + n := by omega
        clear p1 p2 p3 HC
        go_wp2_with (at_builtin; refine wpList_append_own _ rfl _ _ 22 rfl wc.heap.size 5 i0 (.int .u8 0) 1 1 Tryd.underlying22 hii hz0 hz1 hz2 rfl (by decide) _ 0 [] rfl (World.ownsRow_nil _ _ _ _) ⟨g3, 0, none⟩ (10 + n) (10 + n) (cellsOf (fbytes t o e p B)) rfl ?al ?ac (cells_one _) ?b1 ?b2 ?b3 ?next)
        case al => rw [cellsOf_len, fbytes_len, HA.out.2.1]; omega
        case ac => exact bys_cells (HQ.out _ HR5.out).1 _ rfl
        case b1 => unfold maxLen; omega
        case b2 => omega
        case b3 => exact Nat.le_refl _
        case next =>
        intro v6 w6 hown hgrow _
        have HB6 : Hid (Below wc.heap.size wc w6) := (Below.refl _ _).grown hgrow (Nat.le_refl _) (by simp [Value.ownBlock])
        obtain ⟨g6, c6, rfl, hg6⟩ : ∃ g c, v6 = .slice (some ⟨g, 0, none⟩) (10 + n) c ∧ wc.heap.size ≤ g := by
          obtain ⟨a', c', rfl, hA', hN', _, hP'⟩ := own_slice hown (sealed_lt HI.out) (by omega)
          obtain ⟨b, o', rfl⟩ := arg_at hA' (by omega)
          obtain ⟨g, e1, hg⟩ := hP' _ rfl
          simp only [Addr.mk.injEq, and_true] at e1
          obtain ⟨rfl, rfl⟩ := e1
          exact ⟨b, c', rfl, hg⟩
        have hcell : w6.cell? ⟨g6, i, none⟩ = some (.int .u8 (((fbytes t o e p B).getD i 0 : Nat) : Int)) := by
          rw [hown.cellAt i (by omega)]
          exact cellsOf_get _ i (by rw [fbytes_len, HA.out.2.1]; exact hi)
        have hfree := hown.frozenAt i
        obtain ⟨hs1, hs2⟩ := hown.stored i (.int .u8 (to : Int))
        have HO7 : Hid ((w6.setCell ⟨g6, i, none⟩ (.int .u8 (to : Int))).ownsRow wc.heap.size 5 1 (.slice (some ⟨g6, 0, none⟩) (10 + n) c6) (10 + n) (cellsOf ((fbytes t o e p B).set i to))) := by
          have e1 : cellsOf ((fbytes t o e p B).set i to) = (cellsOf (fbytes t o e p B)).set i (.int .u8 (to : Int)) := by simp [cellsOf, List.map_set]
          show World.ownsRow _ _ _ _ _ _ _
          rw [e1]; exact hs1
        have HB7 : Hid (Below wc.heap.size wc (w6.setCell ⟨g6, i, none⟩ (.int .u8 (to : Int)))) := HB6.out.setCell (p := ⟨g6, i, none⟩) hg6 _
        generalize (fbytes t o e p B).getD i 0 = y at hcell
        clear hown hgrow hs1 hs2 HB6
        have HRC := hidden (read_changed t o e p B i to n g6 c6 _ _ h2 h3 h4 h5 HB.out HA.out.2.1 hl hi hto HZ.out HO7.out)
        go_wp2_with fail
        refine HRC.out.mono ?_
        rintro ev w8 ⟨a8, m8, k8, rfl, hb8⟩
        have HB8 : Hid (Below wc.heap.size wc (w8.alloc (.cells #[.int .i64 0, .int .i64 0, .int .i64 0, .int .i64 0, .slice a8 m8 k8] 24))) := (HB7.out.trans (hb8.mono HB7.out.size)).alloc (by have := HB7.out.size; have := hb8.size; omega) _
        clear hb8 HRC HO7
        have HX8 := hidden (HX5.out.next HB8.out)
        have HG8 := hidden ((HX8.out.1.1.cell (p := ⟨0, 0, none⟩) (lt_of_cell HG.out)).trans HG.out)
        go_wp2_with fail
        refine (same_is 9 _ (by decide) (by decide) HG8.out).mono ?_
        rintro ev w9 ⟨rfl, hb9⟩
        have HX9 := hidden (HX8.out.next hb9)
        have HR9 : Hid (Row w9 g3 (fbytes t o e p B)) := (hb9.block g3 (by have := lt_of_block HR5.out; have := HB8.out.size; omega)).trans ((HB8.out.block g3 (lt_of_block HR5.out)).trans HR5.out)
        clear hb9
        go_wp2_with fail
        go_meet
        exact ⟨HX9.out, HR9.out⟩
    case rest =>
    have HX := hidden hcut.out.1
    have HR := hidden (HQ.out _ hcut.out.2)
    clear hcut HX5 HR5 HC hii hz0 hz1 hz2
    have hPB : Hid (∀ q : Nat, q ≤ 64 → pfault (fbytes t o e q B) = (if q = 64 then 6 else 0) ∧ (q ≠ 64 → pbytes (fbytes t o e q B) = fbytes t o e (q + 1) B)) := fun q hq => pass_back h1 h2 h3 h4 hq h6 HB.out
    have hRB : Hid (∀ q : Nat, q ≤ 64 → bfault (fbytes t o e q B) = 0 ∧ bfr (fbytes t o e q B) = ⟨t, o, e, q, B⟩) := fun q hq => read_back h1 h2 h3 h4 hq h6 HB.out
    by_cases q1 : times < 0
    · have d1 : decide (times < 0) = true := by simpa using q1
      go_wp2_with fail
      go_ret
      exact ⟨rfl, HX.out.1.1⟩
    by_cases q2 : 70 < times
    · have d1 : decide (times < 0) = false := by simpa using q1
      have d2 : decide (70 < times) = true := by simpa using q2
      go_wp2_with fail
      go_ret
      exact ⟨rfl, HX.out.1.1⟩
    obtain ⟨T, rfl⟩ : ∃ T : Nat, times = (T : Int) := ⟨times.toNat, by omega⟩
    have hT : T ≤ 70 := by omega
    have d1 : decide ((T : Int) < 0) = false := by simp
    have d2 : decide (70 < (T : Int)) = false := by simp; omega
    clear q1 q2
    go_wp2_with fail
    go_loopw [13, 22] (fun x i wr => ∃ k : Nat, i = .int .i64 (k : Int) ∧ k ≤ T ∧ p + k ≤ 64 ∧ ∃ ax mx cx, x = .slice ax mx cx ∧ Hid (Arg wr ax mx (fbytes t o e (p + k) B) ∧ mx ≤ cx ∧ mx ≤ 2000) ∧ Hid (S2 w wr w4.heap.size t o e p (.slice a n cap) (.slice a4 m4 k4))) (fun _ i _ => T - (intOf i).toNat)
    case atStart => exact ⟨0, rfl, Nat.zero_le _, h5, some ⟨g3, 0, none⟩, 10 + n, 10 + n, rfl, ⟨HR.out, Nat.le_refl _, by omega⟩, HX.out⟩
    case round =>
      obtain ⟨k, rfl, hk, hpk, ax, mx, cx, rfl, HV, HY⟩ := hrel
      by_cases hkT : k < T
      · have HPS := hidden (fpass_all ax mx cx _ wr HV.out.1 HV.out.2.1 (by have := HV.out.2.2; omega))
        obtain ⟨e1, e2⟩ := hPB.out (p + k) hpk
        rw [e1] at HPS
        by_cases h64 : p + k = 64
        · rw [if_pos h64] at HPS
          have er : errv 6 = .iface 49 (.int .i64 6) := rfl
          rw [er] at HPS
          have d3 : ((p : Int) + (k : Int) == 64) = true := by simp; omega
          clear e1 e2 er
          go_wp2_with fail
          refine HPS.out.mono ?_
          rintro ev w10 ⟨a10, m10, k10, rfl, hb10, _⟩
          have HY10 := hidden (HY.out.next hb10)
          have HG10 := hidden ((HY10.out.1.1.cell (p := ⟨0, 0, none⟩) (lt_of_cell HG.out)).trans HG.out)
          clear hb10 HY
          obtain ⟨x0, x1, x2, x3, x4⟩ := HY10.out.1.2.cells
          go_wp2_with fail
          refine (same_is 6 _ (by decide) (by decide) HG10.out).mono ?_
          rintro ev w11 ⟨rfl, hb11⟩
          have HY11 := hidden (HY10.out.next hb11)
          clear hb11
          go_wp2_with fail
          go_ret
          exact ⟨rfl, HY11.out.1.1⟩
        · rw [if_neg h64, errv_zero, e2 h64] at HPS
          clear e1 e2
          go_wp2_with fail
          refine HPS.out.mono ?_
          rintro ev w10 ⟨a10, m10, k10, rfl, hb10, hA10, hc10, hm10⟩
          have HY10 := hidden (HY.out.next hb10)
          have HV10 : Hid (Arg w10 a10 m10 (fbytes t o e (p + (k + 1)) B) ∧ m10 ≤ k10 ∧ m10 ≤ 2000) := ⟨hA10, hc10, hm10⟩
          clear hb10 hA10 HY HV HPS
          go_wp2_with fail
          go_roundw
          case rel => exact ⟨k + 1, by go_num, by omega, by omega, a10, m10, k10, rfl, HV10, HY10⟩
          case measure => simp [intOf]; omega
      · have ek : k = T := by omega
        subst ek
        have HRQ : Hid (Calls Tryd.prog 11 #[.slice ax mx cx] wr fun ev w' => ∃ a' m c', ev = .returned (.tuple #[.agg #[.int .i64 (t : Int), .int .i64 (o : Int), .int .i64 (e : Int), .int .i64 ((p : Int) + (k : Int)), .slice a' m c'], .nilIface]) ∧ Below wr.heap.size wr w' ∧ Arg w' a' m B ∧ ∀ ad, a' = some ad → wr.heap.size ≤ ad.block) := by
          obtain ⟨r1, r2⟩ := hRB.out (p + k) hpk
          refine (fread_all ax mx cx _ wr HV.out.1 HV.out.2.1 (by have := HV.out.2.2; omega)).mono ?_
          rintro ev w' ⟨a', m, c', rfl, hb, hA, _, _, hp⟩
          rw [r2] at hA
          rw [r1, r2]
          exact ⟨a', m, c', rfl, hb, hA, hp⟩
        go_wp2_with fail
        refine HRQ.out.mono ?_
        rintro ev w10 ⟨a10, m10, k10, rfl, hb10, hA10, hp10⟩
        have HY10 := hidden (HY.out.next hb10)
        have hlt := HY.out.2.1.lt
        have HA10 := hidden (Arg.set5 hA10 (g := w4.heap.size) (fun ad h => by have := hp10 ad h; omega))
        clear hb10 hA10 hp10 HRQ
        obtain ⟨x0, x1, x2, x3, x4⟩ := HY10.out.1.2.cells
        obtain ⟨y0, y1, y2, y3, y4⟩ := HY10.out.2.1.cells
        have f0 := HY10.out.2.1.free
        have hG : w.heap.size < w4.heap.size := HY10.out.2.2
        have HF := hidden (HY10.out.2.1.set5 t o e ((p : Int) + (k : Int)) (.slice a10 m10 k10))
        have HO : Hid (∀ v0 v1 v2 v3 v4, Below w.heap.size w (((((w10.setCell ⟨w4.heap.size, 0, none⟩ v0).setCell ⟨w4.heap.size, 1, none⟩ v1).setCell ⟨w4.heap.size, 2, none⟩ v2).setCell ⟨w4.heap.size, 3, none⟩ v3).setCell ⟨w4.heap.size, 4, none⟩ v4)) := fun v0 v1 v2 v3 v4 =>
          ((((HY10.out.1.1.setCell (p := ⟨w4.heap.size, 0, none⟩) (Nat.le_of_lt hG) v0).setCell (p := ⟨w4.heap.size, 1, none⟩) (Nat.le_of_lt hG) v1).setCell (p := ⟨w4.heap.size, 2, none⟩) (Nat.le_of_lt hG) v2).setCell (p := ⟨w4.heap.size, 3, none⟩) (Nat.le_of_lt hG) v3).setCell (p := ⟨w4.heap.size, 4, none⟩) (Nat.le_of_lt hG) v4
        have HK : Hid (FBox (((((w10.setCell ⟨w4.heap.size, 0, none⟩ (.int .i64 (t : Int))).setCell ⟨w4.heap.size, 1, none⟩ (.int .i64 (o : Int))).setCell ⟨w4.heap.size, 2, none⟩ (.int .i64 (e : Int))).setCell ⟨w4.heap.size, 3, none⟩ (.int .i64 ((p : Int) + (k : Int)))).setCell ⟨w4.heap.size, 4, none⟩ (.slice a10 m10 k10)) w.heap.size t o e p (.slice a n cap)) := by
          have hne : w.heap.size ≠ w4.heap.size := by omega
          have h0 := HY10.out.1.2
          unfold FBox at h0 ⊢
          exact (Below.heap_setCell _ ⟨w4.heap.size, 4, none⟩ _ _ hne).trans ((Below.heap_setCell _ ⟨w4.heap.size, 3, none⟩ _ _ hne).trans ((Below.heap_setCell _ ⟨w4.heap.size, 2, none⟩ _ _ hne).trans ((Below.heap_setCell _ ⟨w4.heap.size, 1, none⟩ _ _ hne).trans ((Below.heap_setCell _ ⟨w4.heap.size, 0, none⟩ _ _ hne).trans h0))))
        have s1 := str_conv (cap := k10) (HA10.out (.int .i64 (t : Int)) (.int .i64 (o : Int)) (.int .i64 (e : Int)) (.int .i64 ((p : Int) + (k : Int))) (.slice a10 m10 k10))
        have s2 := str_conv (cap := cap) (HA.out.below (HO.out (.int .i64 (t : Int)) (.int .i64 (o : Int)) (.int .i64 (e : Int)) (.int .i64 ((p : Int) + (k : Int))) (.slice a10 m10 k10)))
        obtain ⟨z0, z1, z2, z3, z4⟩ := HF.out.cells
        obtain ⟨r0, r1, r2, r3, r4⟩ := HK.out.cells
        generalize str B = SB at *
        clear HK HF HA10 x0 x1 x2 x4
        go_wp2_with fail
        go_ret
        exact ⟨rfl, HO.out _ _ _ _ _⟩
  · have HE := hidden (fun W h => fencode_bad t o e p a n cap B W h hc hf)
    generalize ffault t o e p B = f at *
    simp only [errv_pos hf] at HE
    go_enter Tryd.func4, Tryd.ntmps4
    go_wp2_with fail
    refine (HP7.out _).mono ?_
    rintro ev w1 ⟨g1, rfl, hA1, hb1⟩
    have HX1 := hidden ((St.new w t o e p (.slice a n cap)).next hb1)
    have HA1 := hidden hA1
    clear hA1 hb1 HP7
    go_wp2_with fail
    refine (HF7.out g1 _ HA1.out).mono ?_
    rintro ev w2 ⟨g2, rfl, c70, hb2⟩
    have HX2 := hidden (HX1.out.next hb2)
    clear hb2 HX1 HA1 HF7
    obtain ⟨x0, x1, x2, x3, x4⟩ := HX2.out.2.cells
    go_wp2_with fail
    refine (HE.out _ (HA.out.below HX2.out.1)).mono ?_
    rintro ev w3 ⟨rfl, hb3⟩
    have HX3 := hidden (HX2.out.next hb3)
    clear hb3
    go_wp2_with fail
    go_ret
    exact ⟨rfl, HX3.out.1⟩

theorem walk_any (t o e p : Int) (a : Option Addr) (n cap : Nat) (B : List Nat) (at_ : Int) (b : Int) (times : Int) (w : World) (hg : w.cell? ⟨0, 0, none⟩ = some (.iface 81 (.agg #[.pointer (some ⟨1, 29, none⟩)])))
    (h : Arg w a n B) (hn : a = none → n = 0 ∧ cap = 0) (hc : n ≤ cap) (h0 : 0 ≤ b) (h1 : b < 256) :
    Calls Tryd.prog 4 #[.agg #[.int .i64 t, .int .i64 o, .int .i64 e, .int .i64 p, .slice a n cap], .int .i64 at_, .int .u8 b, .int .i64 times] w fun ev w' => ev = .returned (.bool true) ∧ Below w.heap.size w w' := by
  obtain ⟨to, rfl⟩ : ∃ to : Nat, b = (to : Int) := ⟨b.toNat, by omega⟩
  exact walk t o e p a n cap B at_ to times w hg h hn hc (by omega)
end Go.Proofs.YtjhfjkacfnccdacDoor.FBack
