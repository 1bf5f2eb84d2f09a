/-
  What the calls of the law NodeRepairs come to, in its own words. Their condition: the two nodes are such as it makes them.
-/
import Derived.Test.YtijfocggdjjnjaiGreatNRepG
import Derived.Test.YtijfocggdjjnjaiGreatNodeX
namespace Go.Proofs.YtijfocggdjjnjaiGreat.ND
open Go.ChangeShapes Go.WideShapes Go.ChangeAt Go.RowKit Go.Maps Go.Lib Go.Proofs.YtijfocggdjjnjaiGreat.Mem Go.Proofs.YtijfocggdjjnjaiGreat.NO
set_option linter.unusedVariables false

/-- a letter that went out -/
def One1 (w' : World) (lg : Nat) (k : Int) (a : Option Addr) (m cp : Nat) (F : List Nat) : Prop := w'.cell? ⟨lg, 0, none⟩ = some (.int .i64 k) ∧ w'.cell? ⟨lg, 1, none⟩ = some (.slice a m cp) ∧ Hid (Arg w' a m F ∧ m ≤ cp)
theorem lets_one {W : World} {a : Option Addr} {c : Nat} {k : Int} {F : List Nat} (h : Lets W (.slice a [(k, F)].length c) [(k, F)]) : ∃ lg, a = some ⟨lg, 0, none⟩ ∧ 1 ≤ c ∧ ∃ a' m' c', One1 W lg k a' m' c' F := by
  obtain ⟨lg, rfl, _, hc, hat⟩ := h.at (by simp)
  obtain ⟨a', m', c', k0, k1, k2, k3⟩ := hat 0 (by simp)
  exact ⟨lg, rfl, hc, a', m', c', k0, k1, hidden ⟨k2, k3⟩⟩
theorem PP.outA1 {w W : World} {ba bb : Nat} {φ ψ : Nd → Prop} {k : Int} {F : List Nat} (h : PP w W ba bb (Lt φ [(k, F)]) ψ) (hψ : NoSub ψ) :
    Calls Tryz.prog 8 #[.pointer (some ⟨ba, 0, none⟩)] W fun e w' => ∃ lg c a m cp, e = .returned (.slice (some ⟨lg, 0, none⟩) 1 c) ∧ One1 w' lg k a m cp F ∧ Hid (PP w w' ba bb φ ψ) := by
  refine (h.outA hψ).mono ?_
  rintro e w' ⟨a, c, rfl, hL, hP⟩
  obtain ⟨lg, rfl, hc, a', m', c', hO⟩ := lets_one hL
  exact ⟨lg, c, a', m', c', rfl, hO, hidden hP⟩
theorem PP.outB1 {w W : World} {ba bb : Nat} {φ ψ : Nd → Prop} {k : Int} {F : List Nat} (h : PP w W ba bb φ (Lt ψ [(k, F)])) (hφ : NoSub φ) :
    Calls Tryz.prog 8 #[.pointer (some ⟨bb, 0, none⟩)] W fun e w' => ∃ lg c a m cp, e = .returned (.slice (some ⟨lg, 0, none⟩) 1 c) ∧ One1 w' lg k a m cp F ∧ Hid (PP w w' ba bb φ ψ) := by
  refine (h.outB hφ).mono ?_
  rintro e w' ⟨a, c, rfl, hL, hP⟩
  obtain ⟨lg, rfl, hc, a', m', c', hO⟩ := lets_one hL
  exact ⟨lg, c, a', m', c', rfl, hO, hidden hP⟩
theorem PP.outB0 {w W : World} {ba bb : Nat} {φ ψ : Nd → Prop} (h : PP w W ba bb φ (Lt ψ [])) (hφ : NoSub φ) :
    Calls Tryz.prog 8 #[.pointer (some ⟨bb, 0, none⟩)] W fun e w' => ∃ a c, e = .returned (.slice a 0 c) ∧ Hid (PP w w' ba bb φ ψ) := by
  refine (h.outB hφ).mono ?_
  rintro e w' ⟨a, c, rfl, hL, hP⟩
  exact ⟨a, c, rfl, hidden hP⟩
/-- the packet of a number is made, and sent -/
theorem PP.stepA {w W : World} {ba bb n : Nat} {ψ : Nd → Prop} (h : PP w W ba bb (fA 0 (n - 1)) ψ) (h1 : 1 ≤ n) (h2 : n ≤ 400) {x : Int} (hx : (n : Int) = x) :
    Calls Tryz.prog 7 #[.int .i64 x, .int .i64 0] W fun e w' => ∃ g, e = .returned (.agg #[.int .i64 x, .int .i64 x, .int .i64 0, .int .i64 0, .bool true, .slice (some ⟨g, 0, none⟩) 2 2]) ∧ Hid (Calls Tryz.prog 6 #[.pointer (some ⟨ba, 0, none⟩), .int .i64 1, .agg #[.int .i64 x, .int .i64 x, .int .i64 0, .int .i64 0, .bool true, .slice (some ⟨g, 0, none⟩) 2 2], .int .i64 0] w' fun e w' => e = .returned .nilIface ∧ Hid (PP w w' ba bb (Lt (fA 0 n) [(2, rF 1 n)]) ψ)) := by
  subst hx
  refine (packet_calls n (by omega) W).mono ?_
  rintro e w' ⟨g, rfl, hA, hg, hb⟩
  refine ⟨g, rfl, hidden ?_⟩
  obtain ⟨s, rfl⟩ : ∃ s, n = s + 1 := ⟨n - 1, by omega⟩
  refine (PP.sendA (s := s) h (by omega) hb (some ⟨g, 0, none⟩) 2 hA (fun ad e => by cases e; exact hg) (fun e => by cases e)).mono ?_
  rintro e w' ⟨rfl, hP⟩
  exact ⟨rfl, hidden hP⟩
theorem PP.stepA0 {w W : World} {ba bb : Nat} {ψ : Nd → Prop} (h : PP w W ba bb fA0 ψ) :
    Calls Tryz.prog 7 #[.int .i64 5, .int .i64 0] W fun e w' => ∃ g, e = .returned (.agg #[.int .i64 5, .int .i64 5, .int .i64 0, .int .i64 0, .bool true, .slice (some ⟨g, 0, none⟩) 2 2]) ∧ Hid (Calls Tryz.prog 6 #[.pointer (some ⟨ba, 0, none⟩), .int .i64 1, .agg #[.int .i64 5, .int .i64 5, .int .i64 0, .int .i64 0, .bool true, .slice (some ⟨g, 0, none⟩) 2 2], .int .i64 0] w' fun e w' => e = .returned .nilIface ∧ Hid (PP w w' ba bb (Lt (fA 0 5) [(2, rF 1 5)]) ψ)) := by
  refine (packet_calls 5 (by omega) W).mono ?_
  rintro e w' ⟨g, rfl, hA, hg, hb⟩
  refine ⟨g, rfl, hidden ?_⟩
  refine (PP.sendA0 h hb (some ⟨g, 0, none⟩) 2 hA (fun ad e => by cases e; exact hg) (fun e => by cases e)).mono ?_
  rintro e w' ⟨rfl, hP⟩
  exact ⟨rfl, hidden hP⟩
theorem PP.stepB {w W : World} {ba bb n : Nat} {M : GM.Its} {φ : Nd → Prop} (h : PP w W ba bb φ (fB 0 0 (n - 1) M)) (h1 : 1 ≤ n) (h2 : n ≤ 400) (hM : M.length ≤ 1) {a : Option Addr} {m cap : Nat} (hA : Arg W a m (rF 1 n)) (hc : m ≤ cap) :
    Calls Tryz.prog 9 #[.pointer (some ⟨bb, 0, none⟩), .int .i64 1, .slice a m cap, .int .i64 0] W fun e w' => e = .returned .nilIface ∧ Hid (PP w w' ba bb φ (Lt (fB 0 0 n M) [(3, rF 2 n)])) := by
  refine (h.hearB (n := n) (by omega) (by omega) (by omega) hM a m cap hA hc).mono ?_
  rintro e w' ⟨rfl, hP⟩
  rw [show n - (n - 1) - 1 = 0 by omega, show GM.fresh (65536 + ((n - 1 : Nat) : Int)) 0 = [] from rfl, List.append_nil] at hP
  exact ⟨rfl, hidden hP⟩
/-- what the other one is behind i of them, where one is left out -/
def psi (F ms i : Nat) : Nd → Prop := if i ≤ ms then fB 0 0 (F + i - 1) [] else if i = ms + 1 then fB 0 0 (F + ms - 1) [] else fB 0 0 (F + i - 1) [⟨65536 + ((F + ms : Nat) : Int), 0, 0⟩]
theorem noP (F ms i : Nat) : NoSub (psi F ms i) := by
  unfold psi
  split
  · exact noB _ _ _ _
  · split
    · exact noB _ _ _ _
    · exact noB _ _ _ _
theorem psi_skip (F ms : Nat) : psi F ms (ms + 1) = psi F ms ms := by
  unfold psi
  rw [if_neg (by omega), if_pos rfl, if_pos (Nat.le_refl _)]
theorem psi_end {F ms i : Nat} (h : ms + 2 ≤ i) : psi F ms i = fB 0 0 (F + i - 1) [⟨65536 + ((F + ms : Nat) : Int), 0, 0⟩] := by
  unfold psi
  rw [if_neg (by omega), if_neg (by omega)]
theorem PP.psiB {w W : World} {ba bb F ms i : Nat} {φ : Nd → Prop} (h : PP w W ba bb φ (psi F ms i)) (hF : 6 ≤ F) (hF2 : F + i ≤ 400) (hi : i ≠ ms) {a : Option Addr} {m cap : Nat} (hA : Arg W a m (rF 1 (F + i))) (hc : m ≤ cap) :
    Calls Tryz.prog 9 #[.pointer (some ⟨bb, 0, none⟩), .int .i64 1, .slice a m cap, .int .i64 0] W fun e w' => e = .returned .nilIface ∧ Hid (PP w w' ba bb φ (Lt (psi F ms (i + 1)) [(3, rF 2 (F + i))])) := by
  by_cases h1 : i < ms
  · rw [show psi F ms i = fB 0 0 (F + i - 1) [] by unfold psi; rw [if_pos (by omega)]] at h
    rw [show psi F ms (i + 1) = fB 0 0 (F + i) [] by unfold psi; rw [if_pos (by omega)]; rfl]
    exact h.stepB (by omega) (by omega) (by simp) hA hc
  by_cases h2 : i = ms + 1
  · subst h2
    rw [show psi F ms (ms + 1) = fB 0 0 (F + ms - 1) [] by unfold psi; rw [if_neg (by omega), if_pos rfl]] at h
    rw [show psi F ms (ms + 1 + 1) = fB 0 0 (F + (ms + 1)) [⟨65536 + ((F + ms : Nat) : Int), 0, 0⟩] by rw [psi_end (by omega)]; rfl]
    refine (h.hearB (n := F + (ms + 1)) (by omega) (by omega) (by omega) (by simp) a m cap hA hc).mono ?_
    rintro e w' ⟨rfl, hP⟩
    rw [show F + (ms + 1) - (F + ms - 1) - 1 = 1 by omega, show ([] ++ GM.fresh (65536 + ((F + ms - 1 : Nat) : Int)) 1 : GM.Its) = [⟨65536 + ((F + ms : Nat) : Int), 0, 0⟩] by
      unfold GM.fresh
      simp only [List.range_one, List.map_cons, List.map_nil, List.nil_append, List.cons.injEq, GM.Lk.mk.injEq, and_true]
      omega] at hP
    exact ⟨rfl, hidden hP⟩
  · rw [psi_end (by omega)] at h
    rw [show psi F ms (i + 1) = fB 0 0 (F + i) [⟨65536 + ((F + ms : Nat) : Int), 0, 0⟩] by rw [psi_end (by omega)]; rfl]
    exact h.stepB (by omega) (by omega) (by simp) hA hc
/-- what is said back, read -/
theorem bread_lost {W : World} {q : Nat} (hq : q ≤ 1000) {x : Int} (hx : (q : Int) = x) {a : Option Addr} {m cap : Nat} (hA : Arg W a m (Back.ebytes 1 1 [(q : Int)] 0)) (hc : m ≤ cap) :
    Calls Tryz.prog 11 #[.slice a m cap] W fun e w' => ∃ g go c u, e = .returned (.tuple #[.agg #[.int .i64 1, .int .i64 1, .slice (some ⟨g, go, none⟩) 1 c, .int .i64 u], .nilIface]) ∧ w'.cell? ⟨g, go, none⟩ = some (.int .i64 x) ∧ Hid (Below W.heap.size W w') := by
  obtain ⟨k1, t1, r, e1, e2, e3, e4, e5, e6, e7⟩ := Back.again (lost_ok hq).1
  rw [e3] at hA
  have hrf : Back.rfault (k1 :: t1 :: r) = 0 := (Back.rfault_two k1 t1 r e4).trans e5
  refine (Back.read_gen a m cap _ W hA hc).mono ?_
  rintro e w' ⟨k', t', a', m', c', u', rfl, _, hb, _, hz⟩
  rw [hrf]
  obtain ⟨kk, tt, rr, hcons, _, _, hk', ht', _, hIA⟩ := hz hrf
  cases hcons
  rw [e6] at hIA
  have hm' : 1 = m' := hIA.2.1
  subst hm'
  obtain ⟨g, go, rfl, hcs⟩ := hIA.at (by omega)
  have h0 := hcs 0 (by omega)
  rw [Nat.add_zero] at h0
  refine ⟨g, go, c', u', ?_, h0.trans (by rw [← hx]; rfl), hidden hb⟩
  rw [hk', ht', ← e1, ← e2]
  rfl
end Go.Proofs.YtijfocggdjjnjaiGreat.ND

