/-
  What the reference's function Split returns, and what it makes. It changes nothing that was there.
-/
import Derived.Test.YtdmajaofjfgccabDoorRPackC
import Derived.Deep.LoopGhost
namespace Go.Proofs.YtdmajaofjfgccabDoor.RPack
open Go.ChangeShapes Go.WideShapes Go.ChangeAt Go.RowKit Go.Proofs.YtdmajaofjfgccabDoor.PM Go.Proofs.YtdmajaofjfgccabDoor.Mem Go.Proofs.YtdmajaofjfgccabDoor.Pack
set_option linter.unusedVariables false

set_option maxHeartbeats 1000000 in
set_option maxRecDepth 100000 in
theorem rsplit_size (s t l v : Int) (st : Bool) (a : Option Addr) (n cap : Nat) (size : Int) (w : World) (h : size < 1 ∨ 1000 < size) :
    Calls Tryd.prog 19 #[.agg #[.int .i64 s, .int .i64 t, .int .i64 l, .int .i64 v, .bool st, .slice a n cap], .int .i64 size] w fun e w' => e = .returned (.tuple #[.slice none 0 0, .int .i64 1]) ∧ Below w.heap.size w w' := by
  by_cases p : size < 1
  · have d : decide (size < 1) = true := by simpa using p
    go_enter Tryd.func19, Tryd.ntmps19
    go_wp2_with fail
    go_ret2
    exact ⟨rfl, (Below.refl _ _).alloc (Nat.le_refl _) _⟩
  · have d : decide (size < 1) = false := by simpa using p
    have d2 : decide (1000 < size) = true := by simp; omega
    go_enter Tryd.func19, Tryd.ntmps19
    go_wp2_with fail
    go_ret2
    exact ⟨rfl, (Below.refl _ _).alloc (Nat.le_refl _) _⟩

set_option maxHeartbeats 1000000 in
set_option maxRecDepth 100000 in
theorem rsplit_bad (s t l v : Int) (st : Bool) (a : Option Addr) (n cap : Nat) (size : Int) (w : World) (h1 : 1 ≤ size) (h2 : size ≤ 1000) (hf : fault s t l v n ≠ 0) :
    Calls Tryd.prog 19 #[.agg #[.int .i64 s, .int .i64 t, .int .i64 l, .int .i64 v, .bool st, .slice a n cap], .int .i64 size] w fun e w' => e = .returned (.tuple #[.slice none 0 0, .int .i64 (fault s t l v n : Nat)]) ∧ Below w.heap.size w w' := by
  have HC := hidden (fun w => rpacket_calls s t l v st a n cap w)
  generalize fault s t l v n = f at *
  have d0 : ((f : Int) == 0) = false := by simp; omega
  have d : decide (size < 1) = false := by simp; omega
  have d2 : decide (1000 < size) = false := by simp; omega
  go_enter Tryd.func19, Tryd.ntmps19
  go_wp2_with fail
  refine (HC.out _).mono ?_
  rintro e w1 ⟨rfl, hb⟩
  have HB := hidden (below_old hb)
  clear hb
  go_wp2_with fail
  go_ret2
  exact ⟨rfl, HB.out⟩

/-- where the reference's Split stands -/
structure RS (w wr : World) (N k : Nat) (f : Nat → Pk) (L : List Nat) (z : Nat) (al : Option Addr) (cl : Nat) (aR : Option Addr) (nR cR : Nat) (xs : List Value) : Prop where
  below : Below w.heap.size w wr
  own : wr.ownsRow w.heap.size 35 6 (.slice al k cl) k xs
  cells : Cells w xs k f
  rest : Arg w aR nR (L.drop (k * z))
  none : aR = none → nR = 0 ∧ cR = 0
  le : nR ≤ cR
theorem RS.left {w wr : World} {N k : Nat} {f : Nat → Pk} {L : List Nat} {z : Nat} {al : Option Addr} {cl : Nat} {aR : Option Addr} {nR cR : Nat} {xs : List Value} (h : RS w wr N k f L z al cl aR nR cR xs) : nR = L.length - k * z := by
  have := h.rest.2.1
  rw [List.length_drop] at this
  omega
theorem RS.next {w wr w' : World} {N k : Nat} {f : Nat → Pk} {L : List Nat} {z : Nat} {al : Option Addr} {cl : Nat} {aR : Option Addr} {nR cR : Nat} {xs : List Value} (h : RS w wr N k f L z al cl aR nR cR xs) (hk : k * z ≤ L.length) {m : Nat} (hm : m = min z nR) (hb : Below w.heap.size w w')
    {a1 : Option Addr} {c1 : Nat} {SE t l v : Int} {b : Bool} (ho : w'.ownsRow w.heap.size 35 6 (.slice a1 (k + 1) c1) (k + 1) (xs ++ [.int .i64 SE, .int .i64 t, .int .i64 l, .int .i64 v, .bool b, .slice aR m cR]))
    (hf : (f k).seq = SE ∧ (f k).time = t ∧ (f k).layer = l ∧ (f k).level = v ∧ (f k).start = b ∧ (f k).body = piece L z k) :
    RS w w' N (k + 1) f L z a1 c1 (cutAt aR cR m) (nR - m) (cR - m) (xs ++ [.int .i64 SE, .int .i64 t, .int .i64 l, .int .i64 v, .bool b, .slice aR m cR]) := by
  obtain ⟨f0, f1, f2, f3, f4, f5⟩ := hf
  have hl := h.left
  have hle := h.le
  refine ⟨hb, ho, ?_, ?_, fun e => ?_, by omega⟩
  · have hA : Arg w aR m (f k).body := by
      have := h.rest.take m (by omega)
      rw [f5]
      unfold piece
      by_cases p : z ≤ nR
      · rw [show m = z by omega] at this ⊢; exact this
      · rw [List.take_of_length_le (by rw [List.length_drop]; omega)] at this ⊢
        exact this
    have := h.cells.next hA (fun e => by have := h.none e; omega) (cap := cR) (by omega)
    rw [f0, f1, f2, f3, f4] at this
    exact this
  · have := cut_arg (l := m) (h := nR) h.rest (by omega) (Nat.le_refl _) hle
    rw [List.drop_drop, List.take_of_length_le (by rw [List.length_drop]; omega)] at this
    by_cases p : z ≤ nR
    · rw [show m = z by omega] at this ⊢
      rw [Nat.succ_mul]; exact this
    · rw [List.drop_of_length_le (by rw [Nat.succ_mul]; omega)]
      rw [List.drop_of_length_le (by omega)] at this
      exact this
  · have := h.none (cutAt_none e); omega
theorem own_head {w : World} {base k : Nat} {v : Value} {xs : List Value} (h : w.ownsRow base 35 6 v (k + 1) xs) : ∃ a c, v = .slice a (k + 1) c := by
  rcases h.2 with ⟨_, h0⟩ | ⟨g, c, cur, rfl, _⟩
  · omega
  · exact ⟨_, _, rfl⟩
theorem lit_cells {w : World} {T : TypeId} (c0 c1 c2 c3 c4 c5 : Value) : ∀ j u, [c0, c1, c2, c3, c4, c5][j]? = some u → (w.alloc (.cells #[c0, c1, c2, c3, c4, c5] T)).cell? ((⟨w.heap.size, 0, none⟩ : Addr).add j) = some u := by
  intro j u hu
  rw [Addr.add_lit, World.cell?_alloc_mark, Nat.zero_add, ← hu]
  exact List.getElem?_toArray

set_option maxHeartbeats 2000000 in
set_option maxRecDepth 100000 in
theorem rsplit_good (s t l v : Nat) (st : Bool) (a : Option Addr) (n cap : Nat) (L : List Nat) (z : Nat) (w : World) (h : Arg w a n L) (hn : a = none → n = 0 ∧ cap = 0) (hcap : n ≤ cap) (h1 : 1 ≤ z) (h2 : z ≤ 1000) (hf : fault s t l v n = 0) :
    Calls Tryd.prog 19 #[.agg #[.int .i64 (s : Int), .int .i64 (t : Int), .int .i64 (l : Int), .int .i64 (v : Int), .bool st, .slice a n cap], .int .i64 (z : Int)] w fun e w' => ∃ a' M c' code, e = .returned (.tuple #[.slice a' M c', .int .i64 (code : Int)]) ∧ Below w.heap.size w w' ∧
      (count n z ≤ 200 → code = 0 ∧ M = count n z ∧ Pks w' a' M (pt s t l v st L z)) ∧ (200 < count n z → code = 4 ∧ M = 0) := by
  have HC := hidden (fun w => rpacket_calls s t l v st a n cap w)
  rw [hf] at HC
  obtain ⟨_, _, _, _, e1, e2, e3, e4, hs, ht, hl, hv, hb⟩ := fault_zero hf
  have hs : s ≤ 65535 := by omega
  clear e1 e2 e3 e4 hf ht hl hv
  have d : decide ((z : Int) < 1) = false := by simp; omega
  have d2 : decide (1000 < (z : Int)) = false := by simp; omega
  have hL : L.length = n := h.2.1
  have hle := count_le h1 hb
  have hN1 := count_pos n z
  have HFROM : Hid (∀ k, k < count n z → k * z ≤ n) := fun k hk => from_le h1 hk
  have HLEFT : Hid (∀ k, k < count n z → 0 < k → k * z < n) := fun k hk h0 => left_of_lt h1 hk h0
  have HENDS : Hid (n ≤ count n z * z) := count_ends h1
  have HPT : Hid (∀ k, (pt s t l v st L z k).seq = (((s + k) % 65536 : Nat) : Int) ∧ (pt s t l v st L z k).time = t ∧ (pt s t l v st L z k).layer = l ∧ (pt s t l v st L z k).level = v ∧ (pt s t l v st L z k).start = (st && decide (k = 0)) ∧ (pt s t l v st L z k).body = piece L z k) := fun k => ⟨rfl, rfl, rfl, rfl, rfl, rfl⟩
  generalize count n z = N at *
  generalize pt s t l v st L z = f at *
  obtain ⟨i0, hii, hz0, hz1, hz2⟩ := info_parts infoPK
  have HA := hidden h
  have HNN := hidden hn
  clear h hn
  go_enter Tryd.func19, Tryd.ntmps19
  go_wp2_with fail
  refine (HC.out _).mono ?_
  rintro e w1 ⟨rfl, hb1⟩
  have HX := hidden ((Box.new w s t l v st (.slice a n cap)).below hb1 (by simp))
  have HB := hidden (below_old hb1)
  have hlt : w.heap.size < w1.heap.size := HX.out.lt
  clear hb1
  obtain ⟨c0, c1, c2, c3, c4, c5⟩ := HX.out.cells
  have HS0 : Hid (RS w1 w1 N 0 f L z none 0 a n cap []) := ⟨Below.refl _ _, World.ownsRow_nil _ _ _ _, Cells.nil _ _, by rw [Nat.zero_mul]; exact HA.out.below HB.out, HNN.out, hcap⟩
  go_wp2_with fail
  clear c0 c1 c2 c3 c4 c5 HC
  go_loopg [7, 8] N (fun g x y wr => ∃ (k : Nat) (al : Option Addr) (cl : Nat) (aR : Option Addr) (nR cR : Nat) (xs : List Value), k + g = N ∧ x = .slice al k cl ∧ y = .slice aR nR cR ∧ Hid (RS w1 wr N k f L z al cl aR nR cR xs))
  case atStart => exact ⟨0, none, 0, a, n, cap, [], by omega, rfl, rfl, HS0⟩
  case round =>
    obtain ⟨k, al, cl, aR, nR, cR, xs, hkg, rfl, rfl, HR⟩ := hrel
    have hleft := HR.out.left
    rw [hL] at hleft
    have HLF := hidden hleft
    clear hleft
    have hnR : nR ≤ 1000 := by have := HLF.out; omega
    have HIF : Hid (k < N ↔ (k = 0 ∨ 0 < nR)) := by
      have h3 := HLF.out
      constructor
      · intro hk
        by_cases p : k = 0
        · exact .inl p
        · have := HLEFT.out k hk (by omega); exact .inr (by omega)
      · rintro (p | p)
        · omega
        · exact Nat.lt_of_mul_lt_mul_right (a := z) (by have := HENDS.out; omega)
    obtain ⟨bk, hbk⟩ : ∃ b, ((k : Int) == 0) = b := ⟨_, rfl⟩
    have hbk' : bk = decide (k = 0) := by
      rw [← hbk]
      by_cases p : k = 0
      · subst p; rfl
      · simp [p]
    have HBK := hidden hbk'
    clear hbk'
    go_upto_region 8 with fail
    go_cut [37] from 24 to 71 (fun x wx => x = .bool (decide (k < N)) ∧ wx = wr)
    case first =>
      by_cases p1 : z < nR
      · have e1 : decide ((z : Int) < (nR : Int)) = true := by simp; omega
        have ek : decide (k < N) = true := decide_eq_true (HIF.out.2 (.inr (by omega)))
        go_wp2_with fail
        go_meet
        exact ⟨by rw [ek], rfl⟩
      have e1 : decide ((z : Int) < (nR : Int)) = false := by simp; omega
      cases bk with
      | true =>
        have ek : decide (k < N) = true := decide_eq_true (HIF.out.2 (.inl (by have := HBK.out; simpa using this)))
        go_wp2_with fail
        go_meet
        exact ⟨by rw [ek], rfl⟩
      | false =>
        have hk0 : ¬ k = 0 := by have := HBK.out; simpa using this
        by_cases p3 : 0 < nR
        · have e3 : decide ((0 : Int) < (nR : Int)) = true := by simp; omega
          have ek : decide (k < N) = true := decide_eq_true (HIF.out.2 (.inr p3))
          go_wp2_with fail
          go_meet
          exact ⟨by rw [ek], rfl⟩
        · have e3 : decide ((0 : Int) < (nR : Int)) = false := by simp; omega
          have ek : decide (k < N) = false := decide_eq_false (fun hk => by rcases HIF.out.1 hk with h | h <;> omega)
          go_wp2_with fail
          go_meet
          exact ⟨by rw [ek], rfl⟩
    case rest =>
    obtain ⟨rfl, rfl⟩ := hcut
    by_cases hkN : k < N
    · rw [decide_eq_true hkN]
      obtain ⟨m, hm⟩ : ∃ m, m = min z nR := ⟨_, rfl⟩
      have HM := hidden hm
      clear hm
      go_upto_if 42 with fail
      go_cut [9] from 24 to 71 (fun x wx => x = .int .i64 (m : Int) ∧ wx = wc)
      case first =>
        by_cases p : nR < z
        · have e1 : decide ((nR : Int) < (z : Int)) = true := by simp; omega
          go_wp2_with fail
          go_meet
          exact ⟨congrArg (Value.int .i64) (by have := HM.out; omega), rfl⟩
        · have e1 : decide ((nR : Int) < (z : Int)) = false := by simp; omega
          go_wp2_with fail
          go_meet
          exact ⟨congrArg (Value.int .i64) (by have := HM.out; omega), rfl⟩
      case rest =>
      obtain ⟨rfl, rfl⟩ := hcut
      have hmm : m ≤ nR := by have := HM.out; omega
      have hmc : m ≤ cR := by have := HR.out.le; omega
      have eh := fun w => cut_h aR nR cR m hmc w
      have el := fun w => cut_l aR nR cR m hmm w
      obtain ⟨SE, hSE⟩ : ∃ x : Int, (((s + k) % 65536 : Nat) : Int) = x := ⟨_, rfl⟩
      have hrem : ((s : Int) + (k : Int)).tmod 65536 = SE := by rw [← hSE, ← Int.natCast_add]; rfl
      have hSEr : 0 ≤ SE ∧ SE < 65536 := by rw [← hSE]; omega
      have HSE := hidden hSE
      clear hSE
      have HXc := hidden (HX.out.below HR.out.below hlt)
      obtain ⟨c0, c1, c2, c3, c4, c5⟩ := HXc.out.cells
      have b0 := fun O => (HXc.out.alloc O).cells.1
      have b4 := fun O => (HXc.out.alloc O).cells.2.2.2.2.1
      cases st with
      | true =>
        go_wp2_with (at_builtin; refine wpList_append_own _ rfl _ _ 45 rfl w1.heap.size 35 i0 _ 6 64 Tryd.underlying45 hii hz0 hz1 hz2 rfl (by decide) _ k xs rfl ((HR.out.own.alloc _).alloc _) ⟨wc.heap.size + 1, 0, none⟩ 1 1 [.int .i64 SE, .int .i64 (t : Int), .int .i64 (l : Int), .int .i64 (v : Int), .bool bk, .slice aR m cR] rfl rfl ?cc ?one ?b1 ?b2 ?b3 ?next)
        case cc => rw [show wc.heap.size + 1 = (wc.alloc (.cells #[.int .i64 SE, .int .i64 (t : Int), .int .i64 (l : Int), .int .i64 (v : Int), .bool bk, .slice aR m cR] 35)).heap.size by simp]; exact lit_cells _ _ _ _ _ _
        case one => simp [Value.oneCell']
        case b1 => unfold maxLen; omega
        case b2 => omega
        case b3 => have := HR.out.below.size; simp; omega
        case next =>
        intro v1 w' hown hgrow _
        obtain ⟨a1, q1, rfl⟩ := own_head hown
        have HRn := hidden (HR.out.next (by rw [hL]; exact HFROM.out k hkN) HM.out (((HR.out.below.alloc HR.out.below.size _).alloc (by have := HR.out.below.size; simp; omega) _).grown hgrow (by have := HR.out.below.size; simp; omega) (fun j hj => (HR.out.own.lt j hj).1)) hown (by
          have hp := HPT.out k
          exact ⟨hp.1.trans HSE.out, hp.2.1, hp.2.2.1, hp.2.2.2.1, hp.2.2.2.2.1.trans (by rw [HBK.out]; simp), hp.2.2.2.2.2⟩))
        clear hown hgrow
        go_wp2_with fail
        go_roundg (N - (k + 1))
        case measure => omega
        case rel => exact ⟨k + 1, a1, q1, _, _, _, _, by omega, rfl, rfl, HRn⟩
      | false =>
        go_wp2_with (at_builtin; refine wpList_append_own _ rfl _ _ 45 rfl w1.heap.size 35 i0 _ 6 64 Tryd.underlying45 hii hz0 hz1 hz2 rfl (by decide) _ k xs rfl ((HR.out.own.alloc _).alloc _) ⟨wc.heap.size + 1, 0, none⟩ 1 1 [.int .i64 SE, .int .i64 (t : Int), .int .i64 (l : Int), .int .i64 (v : Int), .bool false, .slice aR m cR] rfl rfl ?cc ?one ?b1 ?b2 ?b3 ?next)
        case cc => rw [show wc.heap.size + 1 = (wc.alloc (.cells #[.int .i64 SE, .int .i64 (t : Int), .int .i64 (l : Int), .int .i64 (v : Int), .bool false, .slice aR m cR] 35)).heap.size by simp]; exact lit_cells _ _ _ _ _ _
        case one => simp [Value.oneCell']
        case b1 => unfold maxLen; omega
        case b2 => omega
        case b3 => have := HR.out.below.size; simp; omega
        case next =>
        intro v1 w' hown hgrow _
        obtain ⟨a1, q1, rfl⟩ := own_head hown
        have HRn := hidden (HR.out.next (by rw [hL]; exact HFROM.out k hkN) HM.out (((HR.out.below.alloc HR.out.below.size _).alloc (by have := HR.out.below.size; simp; omega) _).grown hgrow (by have := HR.out.below.size; simp; omega) (fun j hj => (HR.out.own.lt j hj).1)) hown (by
          have hp := HPT.out k
          exact ⟨hp.1.trans HSE.out, hp.2.1, hp.2.2.1, hp.2.2.2.1, hp.2.2.2.2.1.trans (by simp), hp.2.2.2.2.2⟩))
        clear hown hgrow
        go_wp2_with fail
        go_roundg (N - (k + 1))
        case measure => omega
        case rel => exact ⟨k + 1, a1, q1, _, _, _, _, by omega, rfl, rfl, HRn⟩
    · rw [decide_eq_false hkN]
      have ek : k = N := by omega
      have HBe := hidden (HB.out.trans (HR.out.below.mono HB.out.size))
      obtain ⟨ap, cp, e1, hp⟩ := HR.out.cells.pks HR.out.below HR.out.own (Nat.le_refl _)
      simp only [Value.slice.injEq, true_and] at e1
      obtain ⟨rfl, rfl⟩ := e1
      have HP := hidden hp
      have HEK := hidden ek
      clear hp ek
      by_cases p : k ≤ 200
      · have d5 : decide ((200 : Int) < (k : Int)) = false := by simp; omega
        go_wp2_with fail
        go_ret2
        exact ⟨_, _, _, 0, rfl, HBe.out, fun _ => ⟨rfl, HEK.out, HP.out⟩, fun h => by have := HEK.out; omega⟩
      · have d5 : decide ((200 : Int) < (k : Int)) = true := by simp; omega
        go_wp2_with fail
        go_ret2
        exact ⟨_, _, _, 4, rfl, HBe.out, fun h => by have := HEK.out; omega, fun _ => ⟨rfl, rfl⟩⟩
end Go.Proofs.YtdmajaofjfgccabDoor.RPack
