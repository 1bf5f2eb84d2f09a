/-
  What the function Encode of package back returns, and what it makes. It changes nothing that was there.
-/
import Derived.Test.YtpiamlgmadnepaaGreatBackI
namespace Go.Proofs.YtpiamlgmadnepaaGreat.Back
open Go.ChangeShapes Go.WideShapes Go.ChangeAt Go.RowKit Go.Sort Go.Lib Go.Proofs.YtpiamlgmadnepaaGreat.BM Go.Proofs.YtpiamlgmadnepaaGreat.Mem
set_option linter.unusedVariables false

set_option maxHeartbeats 1000000 in
set_option maxRecDepth 100000 in
theorem encode_bad (k t : Int) (a : Option Addr) (n cap : Nat) (u : Int) (L : List Int) (w : World) (h : IArg w a n L) (hn : a = none → n = 0 ∧ cap = 0) (hf : efault k t L u ≠ 0) :
    Calls Tryz.prog 184 #[.agg #[.int .i64 k, .int .i64 t, .slice a n cap, .int .i64 u]] w fun e w' => e = .returned (.tuple #[.slice none 0 0, errv (efault k t L u)]) ∧ Below w.heap.size w w' := by
  have HC := hidden (fun W hb => check_calls k t a n cap u L W (IArg.below h hb))
  have HP := hidden (fun W hb => pairs_gen a n cap L W (IArg.below h hb) hn)
  have hB : Below w.heap.size w (w.alloc (.cells #[.int .i64 k, .int .i64 t, .slice a n cap, .int .i64 u] 242)) := (Below.refl _ _).alloc (Nat.le_refl _) _
  have HB := hidden hB
  have HBX := hidden (BBox.new w k t (.slice a n cap) u)
  have HE : Hid (efault k t L u = if cfault k t L u = 0 then pfault L else cfault k t L u) := rfl
  generalize efault k t L u = F at *
  generalize cfault k t L u = f1 at *
  generalize pfault L = f2 at *
  clear h hn hB
  by_cases p : f1 = 0
  · obtain rfl : F = f2 := by rw [HE.out, if_pos p]
    subst p
    have cne := cmp_ne F
    have gne := grd_ne F
    have dF : decide (F = 0) = false := by simpa using hf
    rw [dF] at cne
    clear HE dF
    have HF := hidden hf
    clear hf
    go_enter Tryz.func184, Tryz.ntmps184
    go_wp2_with fail
    refine (HC.out _ HB.out).mono ?_
    rintro e w1 ⟨rfl, hb1⟩
    have HB1 := hidden (HB.out.trans (hb1.mono HB.out.size))
    have HX1 := hidden (HBX.out.below hb1 HBX.out.lt)
    clear hb1
    obtain ⟨c0, c1, c2, c3⟩ := HX1.out.cells
    rw [errv_zero]
    go_wp2_with fail
    refine (HP.out _ HB1.out).mono ?_
    rintro e w2 ⟨a2, m2, q2, rfl, _, _, _, hb2⟩
    have HB2 := hidden (HB1.out.trans (hb2.mono HB1.out.size))
    clear hb2
    go_wp2_with fail
    go_ret2
    exact ⟨rfl, HB2.out⟩
  · obtain rfl : F = f1 := by rw [HE.out, if_neg p]
    have cne := cmp_ne F
    have gne := grd_ne F
    have dF : decide (F = 0) = false := by simpa using hf
    rw [dF] at cne
    clear HE dF p
    have HF := hidden hf
    clear hf
    go_enter Tryz.func184, Tryz.ntmps184
    go_wp2_with fail
    refine (HC.out _ HB.out).mono ?_
    rintro e w1 ⟨rfl, hb1⟩
    have HB1 := hidden (HB.out.trans (hb1.mono HB.out.size))
    clear hb1
    go_wp2_with fail
    go_ret2
    exact ⟨rfl, HB1.out⟩

/-- two bytes in a block of their own -/
theorem two_own (w : World) (x y : Nat) : (w.alloc (.cells #[.int .u8 (x : Int), .int .u8 (y : Int)] 5)).ownsRow w.heap.size 5 1 (.slice (some ⟨w.heap.size, 0, none⟩) 2 2) 2 (cellsOf [x, y]) :=
  World.ownsRow_lit w #[.int .u8 (x : Int), .int .u8 (y : Int)] 2 (Nat.le_refl _) (by unfold maxLen; omega) rfl

theorem ownsRow_le {w : World} {base base' size n : Nat} {e : TypeId} {v : Value} {xs : List Value} (h : w.ownsRow base e size v n xs) (hb : base' ≤ base) : w.ownsRow base' e size v n xs := by
  refine ⟨h.1, ?_⟩
  rcases h.2 with hl | ⟨g, c, cur, e1, e2, rest⟩
  · exact .inl hl
  · exact .inr ⟨g, c, cur, e1, by omega, rest⟩
theorem own_is {w : World} {base n : Nat} {v : Value} {B C : List Nat} (h : w.ownsRow base 5 1 v n (cellsOf B)) (e : B = C) : w.ownsRow base 5 1 v C.length (cellsOf C) := by
  subst e
  have := h.1
  rw [cellsOf_len] at this
  rw [show B.length = n by omega]
  exact h

set_option maxHeartbeats 4000000 in
set_option maxRecDepth 100000 in
theorem encode_good (k t : Nat) (a : Option Addr) (n cap : Nat) (u : Nat) (L : List Int) (w : World) (h : IArg w a n L) (hn : a = none → n = 0 ∧ cap = 0) (hf : efault k t L u = 0) :
    Calls Tryz.prog 184 #[.agg #[.int .i64 (k : Int), .int .i64 (t : Int), .slice a n cap, .int .i64 (u : Int)]] w fun e w' => ∃ v', e = .returned (.tuple #[v', .nilIface]) ∧ w'.ownsRow w.heap.size 5 1 v' (ebytes k t L u).length (cellsOf (ebytes k t L u)) ∧ Below w.heap.size w w' := by
  obtain ⟨hc, hp⟩ := efault_zero hf
  obtain ⟨hk, t1, t8, u0, um, hkl, hris⟩ := cfault_zero hc
  have hme := most_le k
  obtain ⟨b1, b2, b3, b4, b5, hfit⟩ := back_again hp
  have hL := (pfault_zero hp).2
  have hl200 := (pfault_zero hp).1
  have HC := hidden (fun W hb => check_calls (k : Int) t a n cap u L W (IArg.below h hb))
  rw [hc] at HC
  have HP := hidden (fun W hb => pairs_gen a n cap L W (IArg.below h hb) hn)
  rw [hp] at HP
  have hB : Below w.heap.size w (w.alloc (.cells #[.int .i64 (k : Int), .int .i64 (t : Int), .slice a n cap, .int .i64 (u : Int)] 242)) := (Below.refl _ _).alloc (Nat.le_refl _) _
  have HB := hidden hB
  have HBX := hidden (BBox.new w k t (.slice a n cap) u)
  have HG : Hid (∀ p ∈ prsOf L, ∃ b : Nat, p.1 = b ∧ b < 65536 ∧ p.2 < 65536) := fun p hp => by
    have hb := hL p.1 (((norm_of L).2 _).1 (hfit.base p hp))
    exact ⟨p.1.toNat, by omega, by omega, hfit.mask p hp⟩
  have hll : (prsOf L).length ≤ 200 := by omega
  have hnil : k ≠ 1 → prsOf L = [] := fun h1 => by
    have h0 : L.length = 0 := by
      by_cases h0 : L.length = 0
      · exact h0
      · have := hkl.2 h0; omega
    exact List.eq_nil_of_length_eq_zero (by omega)
  have HEB : Hid (ebytes k t L u = k :: t :: ((if (k : Int) = 2 then be 1 u else if (k : Int) = 3 then be 4 u else []) ++ pbytes (prsOf L))) := by
    show _ = _
    simp [ebytes, tail]
  have hk' : k = 1 ∨ k = 2 ∨ k = 3 := by omega
  have hu : u < 4294967296 := by omega
  generalize ebytes k t L u = EB at *
  generalize prsOf L = l at *
  have ht : t < 256 := by omega
  have hw1 : IntKind.u8.wrap (t : Int) = (t : Int) := by rw [IntKind.wrap_u8']; omega
  have HNIL := hidden hnil
  clear h hn hB hc hp hf b1 b2 b3 b4 b5 hfit hL hris hkl hl200 hnil hk um hme t1 t8
  rcases hk' with rfl | rfl | rfl
  · have HA : Hid (∀ W v (base k' : Nat) (B : List Nat) (x : Nat), x < 65536 → k' ≤ 100000 → W.ownsRow base 5 1 v k' (cellsOf B) → base ≤ W.heap.size → Calls Tryz.prog 205 #[v, .int .i64 (x : Int), .int .i64 2] W _) := fun W v base k' B x hx hk ho hb => appn_calls v base k' B x 2 W ho hb hk (by omega) (by omega)
    go_enter Tryz.func184, Tryz.ntmps184
    go_wp2_with fail
    refine (HC.out _ HB.out).mono ?_
    rintro e w1 ⟨rfl, hb1⟩
    have HB1 := hidden (HB.out.trans (hb1.mono HB.out.size))
    have HX1 := hidden (HBX.out.below hb1 HBX.out.lt)
    have hlt1 := HX1.out.lt
    clear hb1
    obtain ⟨c0, c1, c2, c3⟩ := HX1.out.cells
    rw [errv_zero]
    go_wp2_with fail
    refine (HP.out _ HB1.out).mono ?_
    rintro e w2 ⟨a2, m2, q2, rfl, hP2, _, _, hb2⟩
    have hm2 : m2 = l.length := by have := hP2.2.1; rw [pr_len] at this; exact this.symm
    subst hm2
    have HB2 := hidden (HB1.out.trans (hb2.mono HB1.out.size))
    have HX2 := hidden (HX1.out.below hb2 hlt1)
    have HP2 := hidden hP2
    clear hb2 hP2 c0 c1 c2 c3
    obtain ⟨c0, c1, c2, c3⟩ := HX2.out.cells
    have hlt2 := HX2.out.lt
    rw [errv_zero]
    have HD0 : Hid (DSt w2 (w2.alloc (.cells #[.int .u8 (1 : Int), .int .u8 (t : Int)] 5)) w2.heap.size 2 ([1, t] ++ pbytes (l.take 0)) (.slice (some ⟨w2.heap.size, 0, none⟩) 2 2)) := ⟨(Below.refl _ _).alloc (Nat.le_refl _) _, two_own w2 1 t, fun g b m hb => hb.alloc _⟩
    go_wp2_with fail
    clear c0 c1 c2 c3 HC HP
    go_loopg [7, 47] l.length (fun g x y wr => ∃ (j : Nat) (v : Value), j + g = l.length ∧ x = v ∧ y = .int .i64 (j : Int) ∧ Hid (DSt w2 wr w2.heap.size (2 + j * 4) ([1, t] ++ pbytes (l.take j)) v))
    case atStart => exact ⟨0, _, by omega, rfl, rfl, HD0⟩
    case round =>
      obtain ⟨j, v, hjg, rfl, rfl, HS⟩ := hrel
      by_cases hj : j < l.length
      · have hjz : (j : Int) < (l.length : Int) := by omega
        obtain ⟨b, o, rfl, hbl, hcs⟩ := HP2.out.at (by omega)
        obtain ⟨d0, d1⟩ := hcs j hj
        have hc0 := (HS.out.below.cell (p := ⟨b, o + j * 2, none⟩) hbl).trans d0
        have hc1 := (HS.out.below.cell (p := ⟨b, o + j * 2 + 1, none⟩) hbl).trans d1
        clear d0 d1 hcs
        have hget : l[j]? = some (l[j]'hj) := List.getElem?_eq_getElem hj
        obtain ⟨bn, hb1, hb2, hb3⟩ := HG.out (l[j]'hj) (List.getElem_mem hj)
        have hpr : (pr l).getD j (0, 0) = ((bn : Int), ((l[j]'hj).2 : Int)) := by
          rw [List.getD_eq_getElem?_getD, pr, List.getElem?_map, hget]
          simp [hb1]
        rw [hpr] at hc0 hc1
        have HNX : Hid (pbytes (l.take (j + 1)) = pbytes (l.take j) ++ be 2 bn ++ be 2 (l[j]'hj).2) := by
          show _ = _
          rw [← List.take_append_getElem hj, pbytes_snoc, hb1]
          rfl
        generalize (l[j]'hj).2 = mk at *
        clear hpr hget hb1
        simp only at hc0 hc1
        have hbx := fun O => HS.out.own.alloc O
        go_wp2_with fail
        refine (HA.out _ _ w2.heap.size (2 + j * 4) _ bn hb2 (by omega) (HS.out.own.alloc _) (by have := HS.out.below.size; simp; omega)).mono ?_
        rintro e w3 ⟨v3, rfl, ho3, hbb3, hx3⟩
        have HBX3 := hidden (hx3 _ _ _ (PBox.new wr bn mk))
        have HO3 := hidden ho3
        have HB3 := hidden ((HS.out.below.alloc HS.out.below.size _).trans hbb3)
        have HX3 : Hid (∀ g b m, PBox w2 g b m → PBox w3 g b m) := fun g b m hb => hx3 g b m ((HS.out.box g b m hb).alloc _)
        clear ho3 hbb3 hx3
        obtain ⟨k0, k1⟩ := HBX3.out.cells
        go_wp2_with fail
        refine (HA.out _ _ w2.heap.size (2 + j * 4 + 2) _ mk hb3 (by omega) HO3.out (by have := HB3.out.size; omega)).mono ?_
        rintro e w4 ⟨v4, rfl, ho4, hbb4, hx4⟩
        have HS4 : Hid (DSt w2 w4 w2.heap.size (2 + (j + 1) * 4) ([1, t] ++ pbytes (l.take (j + 1))) v4) := by
          refine ⟨HB3.out.trans hbb4, ?_, fun g b m hb => hx4 g b m (HX3.out g b m hb)⟩
          rw [HNX.out, show 2 + (j + 1) * 4 = 2 + j * 4 + 2 + 2 by omega, ← List.append_assoc, ← List.append_assoc]
          exact ho4
        clear ho4 hbb4 hx4 k0 k1
        go_wp2_with fail
        go_roundg (l.length - (j + 1))
        case measure => omega
        case rel => exact ⟨j + 1, v4, by omega, rfl, by go_num, HS4⟩
      · have hjz : ¬ (j : Int) < (l.length : Int) := by omega
        have ej : j = l.length := by omega
        subst ej
        go_wp2_with fail
        go_ret2
        refine ⟨_, rfl, ownsRow_le (own_is HS.out.own (by rw [HEB.out, List.take_length]; simp)) HB2.out.size, HB2.out.trans (HS.out.below.mono HB2.out.size)⟩
  · have e0 := HNIL.out (by decide)
    subst e0
    have HA : Hid (∀ W v (base : Nat), W.ownsRow base 5 1 v 2 (cellsOf [2, t]) → base ≤ W.heap.size → Calls Tryz.prog 205 #[v, .int .i64 (u : Int), .int .i64 1] W _) := fun W v base ho hb => appn_calls v base 2 [2, t] u 1 W ho hb (by omega) (by omega) hu
    go_enter Tryz.func184, Tryz.ntmps184
    go_wp2_with fail
    refine (HC.out _ HB.out).mono ?_
    rintro e w1 ⟨rfl, hb1⟩
    have HB1 := hidden (HB.out.trans (hb1.mono HB.out.size))
    have HX1 := hidden (HBX.out.below hb1 HBX.out.lt)
    have hlt1 := HX1.out.lt
    clear hb1
    obtain ⟨c0, c1, c2, c3⟩ := HX1.out.cells
    rw [errv_zero]
    go_wp2_with fail
    refine (HP.out _ HB1.out).mono ?_
    rintro e w2 ⟨a2, m2, q2, rfl, hP2, _, _, hb2⟩
    have hm2 : m2 = 0 := by have := hP2.2.1; simpa [pr] using this.symm
    subst hm2
    have HB2 := hidden (HB1.out.trans (hb2.mono HB1.out.size))
    have HX2 := hidden (HX1.out.below hb2 hlt1)
    clear hb2 hP2 c0 c1 c2 c3
    obtain ⟨c0, c1, c2, c3⟩ := HX2.out.cells
    have hlt2 := HX2.out.lt
    rw [errv_zero]
    go_wp2_with fail
    refine (HA.out _ _ _ (two_own w2 2 t) (by simp)).mono ?_
    rintro e w3 ⟨v3, rfl, ho3, hb3, _⟩
    have HO3 := hidden ho3
    have HB3 := hidden (HB2.out.trans ((((Below.refl w2.heap.size w2).alloc (Nat.le_refl _) _).trans hb3).mono HB2.out.size))
    clear ho3 hb3 c0 c1 c2 c3
    go_wp2_with fail
    go_loopg [7, 47] 0 (fun _ x y wr => x = v3 ∧ y = .int .i64 0 ∧ wr = w3)
    case atStart => exact ⟨rfl, rfl, rfl⟩
    case round =>
      obtain ⟨rfl, rfl, rfl⟩ := hrel
      go_wp2_with fail
      go_ret2
      exact ⟨_, rfl, ownsRow_le (own_is HO3.out (by rw [HEB.out]; simp [pbytes])) HB2.out.size, HB3.out⟩
  · have e0 := HNIL.out (by decide)
    subst e0
    have HA : Hid (∀ W v (base : Nat), W.ownsRow base 5 1 v 2 (cellsOf [3, t]) → base ≤ W.heap.size → Calls Tryz.prog 205 #[v, .int .i64 (u : Int), .int .i64 4] W _) := fun W v base ho hb => appn_calls v base 2 [3, t] u 4 W ho hb (by omega) (by omega) hu
    go_enter Tryz.func184, Tryz.ntmps184
    go_wp2_with fail
    refine (HC.out _ HB.out).mono ?_
    rintro e w1 ⟨rfl, hb1⟩
    have HB1 := hidden (HB.out.trans (hb1.mono HB.out.size))
    have HX1 := hidden (HBX.out.below hb1 HBX.out.lt)
    have hlt1 := HX1.out.lt
    clear hb1
    obtain ⟨c0, c1, c2, c3⟩ := HX1.out.cells
    rw [errv_zero]
    go_wp2_with fail
    refine (HP.out _ HB1.out).mono ?_
    rintro e w2 ⟨a2, m2, q2, rfl, hP2, _, _, hb2⟩
    have hm2 : m2 = 0 := by have := hP2.2.1; simpa [pr] using this.symm
    subst hm2
    have HB2 := hidden (HB1.out.trans (hb2.mono HB1.out.size))
    have HX2 := hidden (HX1.out.below hb2 hlt1)
    clear hb2 hP2 c0 c1 c2 c3
    obtain ⟨c0, c1, c2, c3⟩ := HX2.out.cells
    have hlt2 := HX2.out.lt
    rw [errv_zero]
    go_wp2_with fail
    refine (HA.out _ _ _ (two_own w2 3 t) (by simp)).mono ?_
    rintro e w3 ⟨v3, rfl, ho3, hb3, _⟩
    have HO3 := hidden ho3
    have HB3 := hidden (HB2.out.trans ((((Below.refl w2.heap.size w2).alloc (Nat.le_refl _) _).trans hb3).mono HB2.out.size))
    clear ho3 hb3 c0 c1 c2 c3
    go_wp2_with fail
    go_loopg [7, 47] 0 (fun _ x y wr => x = v3 ∧ y = .int .i64 0 ∧ wr = w3)
    case atStart => exact ⟨rfl, rfl, rfl⟩
    case round =>
      obtain ⟨rfl, rfl, rfl⟩ := hrel
      go_wp2_with fail
      go_ret2
      exact ⟨_, rfl, ownsRow_le (own_is HO3.out (by rw [HEB.out]; simp [pbytes])) HB2.out.size, HB3.out⟩

theorem ebytes_lt {k t : Int} {L : List Int} {u : Int} (hk : k < 256) (ht : t < 256) : ∀ c ∈ ebytes k t L u, c < 256 := by
  intro c hc
  simp only [ebytes, tail, List.mem_cons, List.mem_append] at hc
  rcases hc with rfl | rfl | hc | hc
  · omega
  · omega
  · split at hc
    · exact be_lt _ _ c hc
    · split at hc
      · exact be_lt _ _ c hc
      · simp at hc
  · exact pbytes_lt _ c hc
/-- what Encode writes -/
def encB (k t : Int) (L : List Int) (u : Int) : List Nat := if efault k t L u = 0 then ebytes k t L u else []
/-- Encode, of whatever is said back -/
theorem encode_gen (k t : Int) (a : Option Addr) (n cap : Nat) (u : Int) (L : List Int) (w : World) (h : IArg w a n L) (hn : a = none → n = 0 ∧ cap = 0) :
    Calls Tryz.prog 184 #[.agg #[.int .i64 k, .int .i64 t, .slice a n cap, .int .i64 u]] w fun e w' => ∃ a' m c', e = .returned (.tuple #[.slice a' m c', errv (efault k t L u)]) ∧ Arg w' a' m (encB k t L u) ∧ (a' = none → m = 0 ∧ c' = 0) ∧ m ≤ c' ∧ Below w.heap.size w w' := by
  by_cases hf : efault k t L u = 0
  · obtain ⟨hc, hp⟩ := efault_zero hf
    obtain ⟨hk, t1, t8, u0, um, _⟩ := cfault_zero hc
    obtain ⟨k', rfl⟩ : ∃ x : Nat, k = x := ⟨k.toNat, by omega⟩
    obtain ⟨t', rfl⟩ : ∃ x : Nat, t = x := ⟨t.toNat, by omega⟩
    obtain ⟨u', rfl⟩ : ∃ x : Nat, u = x := ⟨u.toNat, by omega⟩
    refine (encode_good k' t' a n cap u' L w h hn hf).mono ?_
    rintro e w' ⟨v', rfl, ho, hb⟩
    have hlen : (ebytes k' t' L u').length ≤ 9223372036854775807 := by
      have h1 := (back_again hp).2.2.2.2.1
      have h2 := (pfault_zero hp).1
      have h3 : (tail k' L u').length ≤ 4 + (pbytes (prsOf L)).length := by
        unfold tail
        split
        · simp [be_len]
        · split
          · simp [be_len]
          · simp
      rw [pbytes_len] at h3
      simp only [ebytes, List.length_cons]
      omega
    obtain ⟨a', c', rfl, hA, h0, h1, _⟩ := own_slice ho (ebytes_lt (by omega) (by omega)) hlen
    refine ⟨a', _, c', by rw [hf]; rfl, ?_, h0, h1, hb⟩
    rw [encB, if_pos hf]
    exact hA
  · refine (encode_bad k t a n cap u L w h hn hf).mono ?_
    rintro e w' ⟨rfl, hb⟩
    refine ⟨none, 0, 0, rfl, ?_, fun _ => ⟨rfl, rfl⟩, Nat.le_refl _, hb⟩
    rw [encB, if_neg hf]
    exact ⟨Bys.nil _ _, rfl, by omega⟩
end Go.Proofs.YtpiamlgmadnepaaGreat.Back

