/-
  What the functions Encode, Read and Split of package pack return, whatever they are given: one row each. They change nothing that was there.
-/
import Derived.Test.YtdmajaofjfgccabDoorPackH
namespace Go.Proofs.YtdmajaofjfgccabDoor.Pack
open Go.ChangeShapes Go.WideShapes Go.ChangeAt Go.RowKit Go.Proofs.YtdmajaofjfgccabDoor.PM Go.Proofs.YtdmajaofjfgccabDoor.Mem
set_option linter.unusedVariables false

theorem cmp_eq (f : Nat) (w : World) : (binOp .eql 25 (errv f) .nilIface).run Tryd.prog w = .ok (.bool (decide (f = 0))) w := by
  by_cases p : f = 0
  · rw [p, errv_zero]; simp [go_sem]
  · rw [errv_pos p]; simp [go_sem, p]
theorem cmp_ne (f : Nat) (w : World) : (binOp .neq 25 (errv f) .nilIface).run Tryd.prog w = .ok (.bool (!decide (f = 0))) w := by
  by_cases p : f = 0
  · rw [p, errv_zero]; simp [go_sem]
  · rw [errv_pos p]; simp [go_sem, p]
theorem grd_eq (f : Nat) (o1 : Operand) (w : World) : (eqGuard .eql 25 o1 (.const .nilIface) (errv f) .nilIface).run Tryd.prog w = .ok () w := by
  by_cases p : f = 0
  · rw [p, errv_zero]; unfold eqGuard; simp
  · rw [errv_pos p]; simp [go_sem]
theorem grd_ne (f : Nat) (o1 : Operand) (w : World) : (eqGuard .neq 25 o1 (.const .nilIface) (errv f) .nilIface).run Tryd.prog w = .ok () w := by
  by_cases p : f = 0
  · rw [p, errv_zero]; unfold eqGuard; simp
  · rw [errv_pos p]; simp [go_sem]

/-- Encode, of whatever packet: what comes, and the error -/
theorem encode_gen (s t l v : Int) (st : Bool) (a : Option Addr) (n cap : Nat) (L : List Nat) (w : World) (h : Arg w a n L) (hn : a = none → n = 0 ∧ cap = 0) :
    Calls Tryd.prog 15 #[.agg #[.int .i64 s, .int .i64 t, .int .i64 l, .int .i64 v, .bool st, .slice a n cap]] w fun e w' => ∃ a' m c', e = .returned (.tuple #[.slice a' m c', errv (fault s t l v n)]) ∧ Below w.heap.size w w' ∧
      (∀ s' t' l' v' : Nat, s = s' → t = t' → l = l' → v = v' → fault s t l v n = 0 → Arg w' a' m (head s' t' l' v' st ++ L) ∧ m ≤ c' ∧ m = 8 + n ∧ ∃ g, a' = some ⟨g, 0, none⟩) := by
  by_cases hf : fault s t l v n = 0
  · obtain ⟨s', t', l', v', rfl, rfl, rfl, rfl, hs, ht, hl, hv, hb⟩ := fault_zero hf
    refine (encode_good s' t' l' v' st a n cap L w h hn hs ht hl hv hb).mono ?_
    rintro e w' ⟨g, rfl, _, hR, hB⟩
    refine ⟨_, _, _, by rw [hf]; rfl, hB, fun s2 t2 l2 v2 e1 e2 e3 e4 _ => ?_⟩
    obtain rfl := Int.ofNat_inj.1 e1
    obtain rfl := Int.ofNat_inj.1 e2
    obtain rfl := Int.ofNat_inj.1 e3
    obtain rfl := Int.ofNat_inj.1 e4
    refine ⟨⟨hR.bys ?_, by simp [head_len, h.2.1], by omega⟩, Nat.le_refl _, rfl, g, rfl⟩
    intro c hc
    rcases List.mem_append.1 hc with hc | hc
    · exact head_lt st hs ht hl hv c hc
    · exact h.1.1 c hc
  · refine (encode_bad s t l v st a n cap w hf).mono ?_
    rintro e w' ⟨rfl, hb⟩
    exact ⟨_, _, _, rfl, hb, fun _ _ _ _ _ _ _ _ h => absurd h hf⟩

/-- Read, of whatever bytes: what comes, and the error -/
theorem read_gen (a : Option Addr) (n cap : Nat) (B : List Nat) (w : World) (h : Arg w a n B) (hc : n ≤ cap) :
    Calls Tryd.prog 17 #[.slice a n cap] w fun e w' => ∃ (s t l v : Int) (st : Bool) (a' : Option Addr) (m c' : Nat), e = .returned (.tuple #[.agg #[.int .i64 s, .int .i64 t, .int .i64 l, .int .i64 v, .bool st, .slice a' m c'], errv (rfault B)]) ∧ Below w.heap.size w w' ∧
      (a' = none → m = 0 ∧ c' = 0) ∧ (∀ ad, a' = some ad → ∃ b o, ad = ⟨b, o, none⟩) ∧
      ((rfault B ≠ 0 ∧ s = 0 ∧ t = 0 ∧ l = 0 ∧ v = 0 ∧ st = false ∧ Arg w' a' m []) ∨
       (rfault B = 0 ∧ ∃ x0 x1 x2 x3 x4 x5 x6 x7 R, B = x0 :: x1 :: x2 :: x3 :: x4 :: x5 :: x6 :: x7 :: R ∧ good x0 = true ∧ x1 ≤ 127 ∧ R.length ≤ 1000 ∧ s = ((x2 * 256 + x3 : Nat) : Int) ∧ t = ((((x4 * 256 + x5) * 256 + x6) * 256 + x7 : Nat) : Int) ∧ l = ((x0 % 4 : Nat) : Int) ∧ v = (x1 : Int) ∧ st = decide (160 ≤ x0) ∧ Arg w' a' m R)) := by
  have hlen := h.2.1
  by_cases h8 : n < 8
  · have hr : rfault B = 8 := rfault_short (by omega)
    refine (read_short a n cap w h8).mono ?_
    rintro e w' ⟨rfl, hb⟩
    exact ⟨0, 0, 0, 0, false, none, 0, 0, by rw [hr]; rfl, hb, fun _ => ⟨rfl, rfl⟩, fun ad e => by simp at e, .inl ⟨by omega, rfl, rfl, rfl, rfl, rfl, Bys.nil _ _, rfl, by omega⟩⟩
  · obtain ⟨b, o, rfl⟩ := arg_at h (by omega)
    obtain ⟨x0, x1, x2, x3, x4, x5, x6, x7, R, rfl⟩ := eight (B := B) (by omega)
    have hx : ∀ c ∈ x0 :: x1 :: x2 :: x3 :: x4 :: x5 :: x6 :: x7 :: R, c < 256 := h.1.1
    have c0 : w.cell? ⟨b, o, none⟩ = some (.int .u8 (x0 : Int)) := arg_cell h 0 (by omega)
    have c1 : w.cell? ⟨b, o + 1, none⟩ = some (.int .u8 (x1 : Int)) := arg_cell h 1 (by omega)
    have hR : R.length + 8 = n := by simp at hlen; omega
    rw [rfault_eight]
    by_cases hg : (good x0 && decide (x1 ≤ 127)) = true
    · rw [if_pos hg]
      by_cases hl : R.length ≤ 1000
      · rw [if_pos hl]
        refine (read_good b o n cap x0 x1 x2 x3 x4 x5 x6 x7 R w h hc hg hl).mono ?_
        rintro e w' ⟨a', c', rfl, ho, hb⟩
        obtain ⟨a2, c2, e2, hA, hN, hC, hB⟩ := own_slice ho (fun c hc => hx c (by simp [hc])) (by omega)
        simp only [Value.slice.injEq, true_and] at e2
        obtain ⟨rfl, rfl⟩ := e2
        obtain ⟨g1, g2⟩ := Bool.and_eq_true_iff.1 hg
        refine ⟨_, _, _, _, _, a', _, c', rfl, hb, hN, fun ad e => ?_, .inr ⟨rfl, x0, x1, x2, x3, x4, x5, x6, x7, R, rfl, g1, of_decide_eq_true g2, hl, rfl, rfl, rfl, rfl, rfl, hA⟩⟩
        obtain ⟨g, e1, _⟩ := hB ad e
        exact ⟨g, 0, e1⟩
      · rw [if_neg hl]
        refine (read_full b o n cap x0 x1 w (by omega) (hx _ (by simp)) (hx _ (by simp)) c0 c1 hg h.2.2).mono ?_
        rintro e w' ⟨rfl, hb⟩
        exact ⟨0, 0, 0, 0, false, none, 0, 0, rfl, hb, fun _ => ⟨rfl, rfl⟩, fun ad e => by simp at e, .inl ⟨by omega, rfl, rfl, rfl, rfl, rfl, Bys.nil _ _, rfl, by omega⟩⟩
    · rw [if_neg hg]
      refine (read_syntax b o n cap x0 x1 w (by omega) (hx _ (by simp)) (hx _ (by simp)) c0 c1 (by simpa using hg)).mono ?_
      rintro e w' ⟨rfl, hb⟩
      exact ⟨0, 0, 0, 0, false, none, 0, 0, rfl, hb, fun _ => ⟨rfl, rfl⟩, fun ad e => by simp at e, .inl ⟨by omega, rfl, rfl, rfl, rfl, rfl, Bys.nil _ _, rfl, by omega⟩⟩

/-- what Split says -/
def sfault (s t l v : Int) (n : Nat) (size : Int) : Nat :=
  if size < 1 ∨ 1000 < size then 1 else if fault s t l v n = 0 then (if count n size.toNat ≤ 200 then 0 else 4) else fault s t l v n
/-- Split, of whatever packet and number: what comes, and the error -/
theorem split_gen (s t l v : Int) (st : Bool) (a : Option Addr) (n cap : Nat) (L : List Nat) (size : Int) (w : World) (h : Arg w a n L) (hn : a = none → n = 0 ∧ cap = 0) (hcap : n ≤ cap) :
    Calls Tryd.prog 20 #[.agg #[.int .i64 s, .int .i64 t, .int .i64 l, .int .i64 v, .bool st, .slice a n cap], .int .i64 size] w fun e w' => ∃ a' N, e = .returned (.tuple #[.slice a' N N, errv (sfault s t l v n size)]) ∧ Below w.heap.size w w' ∧
      ((sfault s t l v n size ≠ 0 ∧ N = 0 ∧ a' = none) ∨ (sfault s t l v n size = 0 ∧ ∃ s' t' l' v' z : Nat, s = s' ∧ t = t' ∧ l = l' ∧ v = v' ∧ size = z ∧ s' ≤ 65535 ∧ n ≤ 1000 ∧ 1 ≤ z ∧ z ≤ 1000 ∧ N = count n z ∧ N ≤ 200 ∧ Pks w' a' N (pt s' t' l' v' st L z))) := by
  unfold sfault
  by_cases hz : size < 1 ∨ 1000 < size
  · rw [if_pos hz]
    refine (split_size s t l v st a n cap size w hz).mono ?_
    rintro e w' ⟨rfl, hb⟩
    exact ⟨none, 0, rfl, hb, .inl ⟨by omega, rfl, rfl⟩⟩
  · rw [if_neg hz]
    by_cases hf : fault s t l v n = 0
    · rw [if_pos hf]
      obtain ⟨s', t', l', v', rfl, rfl, rfl, rfl, hs, ht, hl, hv, hb⟩ := fault_zero hf
      obtain ⟨z, rfl⟩ : ∃ z : Nat, size = (z : Int) := ⟨size.toNat, by omega⟩
      rw [Int.toNat_natCast]
      by_cases hc : count n z ≤ 200
      · rw [if_pos hc]
        refine (split_good s' t' l' v' st a n cap L z w h hn hcap (by omega) (by omega) hf hc).mono ?_
        rintro e w' ⟨g, rfl, hp, hb'⟩
        exact ⟨_, _, rfl, hb', .inr ⟨rfl, s', t', l', v', z, rfl, rfl, rfl, rfl, rfl, hs, hb, by omega, by omega, rfl, hc, hp⟩⟩
      · rw [if_neg hc]
        refine (split_full s' t' l' v' st a n cap z w (by omega) (by omega) hf (by omega)).mono ?_
        rintro e w' ⟨rfl, hb'⟩
        exact ⟨none, 0, rfl, hb', .inl ⟨by omega, rfl, rfl⟩⟩
    · rw [if_neg hf]
      refine (split_bad s t l v st a n cap size w (by omega) (by omega) hf).mono ?_
      rintro e w' ⟨rfl, hb'⟩
      exact ⟨none, 0, rfl, hb', .inl ⟨hf, rfl, rfl⟩⟩

/-- what was packed is read as it was -/
theorem read_back (s t l v : Nat) (st : Bool) (L : List Nat) (b o n cap : Nat) (w : World) (h : Arg w (some ⟨b, o, none⟩) n (head s t l v st ++ L)) (hc : n ≤ cap) (hs : s ≤ 65535) (ht : t ≤ 4294967295) (hl : l ≤ 3) (hv : v ≤ 127) (hb : L.length ≤ 1000) :
    Calls Tryd.prog 17 #[.slice (some ⟨b, o, none⟩) n cap] w fun e w' => ∃ (a' : Option Addr) (m c' : Nat), e = .returned (.tuple #[.agg #[.int .i64 (s : Int), .int .i64 (t : Int), .int .i64 (l : Int), .int .i64 (v : Int), .bool st, .slice a' m c'], .nilIface]) ∧ Below w.heap.size w w' ∧ Arg w' a' m L ∧ (∀ ad, a' = some ad → ∃ b o, ad = ⟨b, o, none⟩) := by
  obtain ⟨x0, x1, x2, x3, x4, x5, x6, x7, e, f0, f1, f2, f3, f4, f5⟩ := read_head s t l v st hs ht hl
  rw [e] at h
  have hg : (good x0 && decide (x1 ≤ 127)) = true := by simp [f2, f3, hv]
  refine (read_good b o n cap x0 x1 x2 x3 x4 x5 x6 x7 L w h hc hg hb).mono ?_
  rintro ev w' ⟨a', c', rfl, ho, hb'⟩
  obtain ⟨a2, c2, e2, hA, hN, hC, hB⟩ := own_slice ho (fun c hc => h.1.1 c (by simp [hc])) (by omega)
  simp only [Value.slice.injEq, true_and] at e2
  obtain ⟨rfl, rfl⟩ := e2
  refine ⟨a', _, c', by rw [f4, f5, f0, f1, f3], hb', hA, fun ad e => ?_⟩
  obtain ⟨g, e1, _⟩ := hB ad e
  exact ⟨g, 0, e1⟩
end Go.Proofs.YtdmajaofjfgccabDoor.Pack
