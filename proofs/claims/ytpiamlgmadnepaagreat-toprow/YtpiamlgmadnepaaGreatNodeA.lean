/-
  What New and checkPlan of package node return, and what the functions that they call do. Their condition: the node is such as it may be.
-/
import Derived.Test.YtpiamlgmadnepaaGreatNodeM
namespace Go.Proofs.YtpiamlgmadnepaaGreat.ND
open Go.ChangeShapes Go.WideShapes Go.ChangeAt Go.RowKit Go.Maps Go.Proofs.YtpiamlgmadnepaaGreat.Mem Go.Proofs.YtpiamlgmadnepaaGreat.NO
set_option linter.unusedVariables false

theorem errv_zero : errv 0 = .nilIface := rfl
theorem errv_pos {e : Nat} (h : e ≠ 0) : errv e = .iface 101 (.int .i64 (e : Int)) := by simp [errv, h]
theorem cmp_ne (f : Nat) (w : World) : (binOp .neq 25 (errv f) .nilIface).run Tryz.prog w = .ok (.bool (!decide (f = 0))) w := by
  by_cases p : f = 0
  · rw [p, errv_zero]; simp [go_sem]
  · rw [errv_pos p]; simp [go_sem, p]
theorem cmp_eq (f : Nat) (w : World) : (binOp .eql 25 (errv f) .nilIface).run Tryz.prog w = .ok (.bool (decide (f = 0))) w := by
  by_cases p : f = 0
  · rw [p, errv_zero]; simp [go_sem]
  · rw [errv_pos p]; simp [go_sem, p]
theorem grd_ne (f : Nat) (o1 : Operand) (w : World) : (eqGuard .neq 25 o1 (.const .nilIface) (errv f) .nilIface).run Tryz.prog w = .ok () w := by
  by_cases p : f = 0
  · rw [p, errv_zero]; unfold eqGuard; simp
  · rw [errv_pos p]; simp [go_sem]
theorem grd_eq (f : Nat) (o1 : Operand) (w : World) : (eqGuard .eql 25 o1 (.const .nilIface) (errv f) .nilIface).run Tryz.prog w = .ok () w := by
  by_cases p : f = 0
  · rw [p, errv_zero]; unfold eqGuard; simp
  · rw [errv_pos p]; simp [go_sem]

/-! what may be -/
def okN (x : Int) : Bool := decide (0 ≤ x ∧ x ≤ 15)
def okT (x : Int) : Bool := decide (1 ≤ x ∧ x ≤ 8)
def oth (id x : Int) : Bool := okN x && decide (x ≠ id)
def badk (id pa k : Int) : Bool := !oth id k || decide (k = pa)
def twc (K : List Int) : Bool := !decide K.Nodup
/-- the track of a number -/
def Nd.at (N : Nd) (tk : Int) : Option Tr := N.tr (tk - 1).toNat
def old (t : Option Tr) (ep : Int) : Bool := match t with
  | some t => decide (ep < t.ep)
  | none => false
/-- the fault of a plan -/
def pF (N : Nd) (tk pa : Int) (K : List Int) (ep : Int) : Nat :=
  if okT tk = false then 1 else if pa ≠ -1 ∧ oth N.id pa = false then 1 else if ep < 0 ∨ 65535 < ep then 1 else if K.any (badk N.id pa) then 1 else if twc K then 7 else if old (N.at tk) ep then 6 else 0

theorem isNode_calls (x : Int) (w : World) : Calls Tryz.prog 82 #[.int .i64 x] w fun e w' => e = .returned (.bool (okN x)) ∧ w' = w := by
  by_cases c : 0 ≤ x
  · by_cases d : x < 16
    · have e : okN x = true := by unfold okN; simp; omega
      rw [e]
      clear e
      have d0 : decide (0 ≤ x) = true := by simpa using c
      have d1 : decide (x < 16) = true := by simpa using d
      go_enter Tryz.func82, Tryz.ntmps82
      go_wp2_with fail
      go_ret
      exact ⟨rfl, rfl⟩
    · have e : okN x = false := by unfold okN; simp; omega
      rw [e]
      clear e
      have d0 : decide (0 ≤ x) = true := by simpa using c
      have d1 : decide (x < 16) = false := by simpa using d
      go_enter Tryz.func82, Tryz.ntmps82
      go_wp2_with fail
      go_ret
      exact ⟨rfl, rfl⟩
  · have e : okN x = false := by unfold okN; simp; omega
    rw [e]
    clear e
    have d0 : decide (0 ≤ x) = false := by simpa using c
    go_enter Tryz.func82, Tryz.ntmps82
    go_wp2_with fail
    go_ret
    exact ⟨rfl, rfl⟩
theorem isTrack_calls (x : Int) (w : World) : Calls Tryz.prog 86 #[.int .i64 x] w fun e w' => e = .returned (.bool (okT x)) ∧ w' = w := by
  by_cases c : 1 ≤ x
  · by_cases d : x ≤ 8
    · have e : okT x = true := by unfold okT; simp; omega
      rw [e]
      clear e
      have d0 : decide (1 ≤ x) = true := by simpa using c
      have d1 : decide (x ≤ 8) = true := by simpa using d
      go_enter Tryz.func86, Tryz.ntmps86
      go_wp2_with fail
      go_ret
      exact ⟨rfl, rfl⟩
    · have e : okT x = false := by unfold okT; simp; omega
      rw [e]
      clear e
      have d0 : decide (1 ≤ x) = true := by simpa using c
      have d1 : decide (x ≤ 8) = false := by simpa using d
      go_enter Tryz.func86, Tryz.ntmps86
      go_wp2_with fail
      go_ret
      exact ⟨rfl, rfl⟩
  · have e : okT x = false := by unfold okT; simp; omega
    rw [e]
    clear e
    have d0 : decide (1 ≤ x) = false := by simpa using c
    go_enter Tryz.func86, Tryz.ntmps86
    go_wp2_with fail
    go_ret
    exact ⟨rfl, rfl⟩
theorem isOther_calls (b : Nat) (id x : Int) (w : World) (h : w.cell? ⟨b, 1, none⟩ = some (.int .i64 id)) : Calls Tryz.prog 143 #[.pointer (some ⟨b, 0, none⟩), .int .i64 x] w fun e w' => e = .returned (.bool (oth id x)) ∧ w' = w := by
  have C := hidden (isNode_calls x)
  cases hx : okN x with
  | false =>
    rw [show oth id x = false from by unfold oth; rw [hx]; rfl]
    rw [hx] at C
    clear hx
    go_enter Tryz.func143, Tryz.ntmps143
    go_wp2_with fail
    refine (C.out _).mono ?_
    rintro e w1 ⟨rfl, rfl⟩
    go_wp2_with fail
    go_ret
    exact ⟨rfl, rfl⟩
  | true =>
    rw [show oth id x = decide (x ≠ id) from by unfold oth; rw [hx]; rfl]
    rw [hx] at C
    clear hx
    obtain ⟨q, hq⟩ : ∃ q, decide (x ≠ id) = q := ⟨_, rfl⟩
    have hq' : (x != id) = q := by rw [← hq]; by_cases e : x = id <;> simp [e]
    rw [hq]
    clear hq
    go_enter Tryz.func143, Tryz.ntmps143
    go_wp2_with fail
    refine (C.out _).mono ?_
    rintro e w1 ⟨rfl, rfl⟩
    go_wp2_with fail
    go_ret
    exact ⟨rfl, rfl⟩

/-! IndexFunc, ContainsFunc of a closure that may change what it was made of -/
/-- found at j, or nowhere -/
def Found (n : Nat) (p : Nat → Bool) (I : Nat → World → Prop) (i : Int) (w : World) : Prop :=
  (∃ j, j < n ∧ i = (j : Int) ∧ p j = true ∧ (∀ k, k < j → p k = false) ∧ I (j + 1) w) ∨ (i = -1 ∧ (∀ k, k < n → p k = false) ∧ I n w)
set_option maxRecDepth 100000 in
theorem idx1_calls (b1 b2 : Nat) (a : Option Addr) (n cap : Nat) (L : List Int) (I : Nat → World → Prop) (p : Nat → Bool) (w : World) (hl : L.length = n) (hn : n ≤ 9223372036854775807) (hI : ∀ j W, I j W → Gaps.IArg W a n L) (h0 : I 0 w)
    (hs : ∀ j W, j < n → I j W → Calls Tryz.prog 145 #[.int .i64 (L.getD j 0), .pointer (some ⟨b1, 0, none⟩), .pointer (some ⟨b2, 0, none⟩)] W fun e W' => e = .returned (.bool (p j)) ∧ I (j + 1) W') :
    Calls Tryz.prog 178 #[.slice a n cap, .func (.func 145) #[] #[.pointer (some ⟨b1, 0, none⟩), .pointer (some ⟨b2, 0, none⟩)]] w fun e w' => ∃ i : Int, e = .returned (.int .i64 i) ∧ Found n p I i w' := by
  have HI := hidden hI
  have H0 := hidden h0
  have HS := hidden hs
  clear hI h0 hs
  go_enter Tryz.func178, Tryz.ntmps178
  go_wp2_with fail
  go_loopg [8] n (fun g x wr => ∃ j : Nat, j + g = n ∧ x = .int .i64 (j : Int) ∧ Hid (∀ k, k < j → p k = false) ∧ Hid (I j wr))
  case atStart => exact ⟨0, by omega, rfl, hidden (fun k hk => absurd hk (by omega)), H0⟩
  case round =>
    obtain ⟨j, hjg, rfl, HK, HJ⟩ := hrel
    by_cases hj : j < n
    · have hjz : (j : Int) < (n : Int) := by omega
      obtain ⟨b, o, rfl, hcs⟩ := (HI.out j _ HJ.out).at (by omega)
      have c0 := hcs j hj
      have C := hidden (HS.out j _ hj HJ.out)
      obtain ⟨m, hm⟩ : ∃ m, L.getD j 0 = m := ⟨_, rfl⟩
      rw [hm] at c0 C
      clear hcs hm
      go_wp2_with fail
      refine C.out.mono ?_
      rintro r w1 ⟨rfl, hI1⟩
      have HI1 := hidden hI1
      clear hI1
      cases ht : p j with
      | true =>
        have HT := hidden ht
        clear ht
        go_wp2_with fail
        go_ret
        exact ⟨_, rfl, .inl ⟨j, hj, rfl, HT.out, HK.out, HI1.out⟩⟩
      | false =>
        have HT := hidden ht
        clear ht
        go_wp2_with fail
        go_roundg (n - (j + 1))
        case measure => omega
        case rel =>
          refine ⟨j + 1, by omega, by go_num, hidden (fun k hk => ?_), HI1⟩
          rcases Nat.lt_or_ge k j with h | h
          · exact HK.out k h
          · obtain rfl : k = j := by omega
            exact HT.out
    · have hjz : ¬ (j : Int) < (n : Int) := by omega
      obtain rfl : n = j := by omega
      go_wp2_with fail
      go_ret
      exact ⟨_, rfl, .inr ⟨rfl, HK.out, HJ.out⟩⟩
set_option maxRecDepth 100000 in
theorem idx2_calls (b1 : Nat) (a : Option Addr) (n cap : Nat) (L : List Int) (I : Nat → World → Prop) (p : Nat → Bool) (w : World) (hl : L.length = n) (hn : n ≤ 9223372036854775807) (hI : ∀ j W, I j W → Gaps.IArg W a n L) (h0 : I 0 w)
    (hs : ∀ j W, j < n → I j W → Calls Tryz.prog 179 #[.int .i64 (L.getD j 0), .pointer (some ⟨b1, 0, none⟩)] W fun e W' => e = .returned (.bool (p j)) ∧ I (j + 1) W') :
    Calls Tryz.prog 178 #[.slice a n cap, .func (.func 179) #[] #[.pointer (some ⟨b1, 0, none⟩)]] w fun e w' => ∃ i : Int, e = .returned (.int .i64 i) ∧ Found n p I i w' := by
  have HI := hidden hI
  have H0 := hidden h0
  have HS := hidden hs
  clear hI h0 hs
  go_enter Tryz.func178, Tryz.ntmps178
  go_wp2_with fail
  go_loopg [8] n (fun g x wr => ∃ j : Nat, j + g = n ∧ x = .int .i64 (j : Int) ∧ Hid (∀ k, k < j → p k = false) ∧ Hid (I j wr))
  case atStart => exact ⟨0, by omega, rfl, hidden (fun k hk => absurd hk (by omega)), H0⟩
  case round =>
    obtain ⟨j, hjg, rfl, HK, HJ⟩ := hrel
    by_cases hj : j < n
    · have hjz : (j : Int) < (n : Int) := by omega
      obtain ⟨b, o, rfl, hcs⟩ := (HI.out j _ HJ.out).at (by omega)
      have c0 := hcs j hj
      have C := hidden (HS.out j _ hj HJ.out)
      obtain ⟨m, hm⟩ : ∃ m, L.getD j 0 = m := ⟨_, rfl⟩
      rw [hm] at c0 C
      clear hcs hm
      go_wp2_with fail
      refine C.out.mono ?_
      rintro r w1 ⟨rfl, hI1⟩
      have HI1 := hidden hI1
      clear hI1
      cases ht : p j with
      | true =>
        have HT := hidden ht
        clear ht
        go_wp2_with fail
        go_ret
        exact ⟨_, rfl, .inl ⟨j, hj, rfl, HT.out, HK.out, HI1.out⟩⟩
      | false =>
        have HT := hidden ht
        clear ht
        go_wp2_with fail
        go_roundg (n - (j + 1))
        case measure => omega
        case rel =>
          refine ⟨j + 1, by omega, by go_num, hidden (fun k hk => ?_), HI1⟩
          rcases Nat.lt_or_ge k j with h | h
          · exact HK.out k h
          · obtain rfl : k = j := by omega
            exact HT.out
    · have hjz : ¬ (j : Int) < (n : Int) := by omega
      obtain rfl : n = j := by omega
      go_wp2_with fail
      go_ret
      exact ⟨_, rfl, .inr ⟨rfl, HK.out, HJ.out⟩⟩
end Go.Proofs.YtpiamlgmadnepaaGreat.ND

