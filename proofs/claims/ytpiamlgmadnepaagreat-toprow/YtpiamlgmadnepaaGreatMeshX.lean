/-
  What a tick does where nothing lacks; and Calm, where packets are on their way down and nothing was lost.
-/
import Derived.Test.YtpiamlgmadnepaaGreatMeshW
namespace Go.Proofs.YtpiamlgmadnepaaGreat.MS
open Go.ChangeShapes Go.WideShapes Go.ChangeAt Go.RowKit Go.Maps Go.Proofs.YtpiamlgmadnepaaGreat.Mem Go.Proofs.YtpiamlgmadnepaaGreat.NO Go.Proofs.YtpiamlgmadnepaaGreat.ND
set_option linter.unusedVariables false

def stillT (now : Int) (t : Tr) : Tr := if t.pa = -1 then t else { t with gn := now, gM := [], gG := [] }
def stillS (now : Int) (s : Sb) : Sb := { s with on := Order.qW s.on now }
def stillF (now : Int) (f : Nat → Option Tr) (j : Nat) : Nat → Option Tr := fun k => if k < j then (f k).map (stillT now) else f k
def stillN (N : Nd) (now : Int) : Nd := { N with nw := now, tr := stillF now N.tr 8, sb := N.sb.map fun x => (x.1, stillS now x.2) }
structure Lacks0 (N : Nd) : Prop where
  gm : ∀ k, k < 8 → ∀ t, N.tr k = some t → t.gM = []
  om : ∀ x ∈ N.sb, x.2.oM = [] ∧ -1 ≤ x.2.ox
theorem ask_still {N : Nd} {now : Int} {j : Nat} (h : ∀ t, N.tr j = some t → t.gM = []) : N.askG j now = { N with tr := fun k => if k = j then (N.tr j).map (stillT now) else N.tr k } := by
  unfold Nd.askG
  cases ht : N.tr j with
  | none =>
    have e : (fun k => if k = j then (none : Option Tr).map (stillT now) else N.tr k) = N.tr := by
      funext k
      by_cases c : k = j
      · subst c; rw [if_pos rfl, ht]; rfl
      · rw [if_neg c]
    rw [e]
  | some t =>
    have hg := h t ht
    simp only
    by_cases c : t.pa = -1
    · rw [if_pos c]
      have e : (fun k => if k = j then (some t).map (stillT now) else N.tr k) = N.tr := by
        funext k
        by_cases c2 : k = j
        · subst c2
          rw [if_pos rfl, ht]
          show some (stillT now t) = _
          unfold stillT
          rw [if_pos c]
        · rw [if_neg c2]
      rw [e]
    · rw [if_neg c, hg]
      have e1 : GM.gaveL 3 3 now [] = [] := rfl
      have e2 : GM.dueL 3 3 now [] = [] := rfl
      have e3 : GM.dM 3 3 now [] = [] := rfl
      rw [e1, e2, e3, if_pos rfl, List.append_nil]
      have e4 : selS t.tk (fun s => List.foldl (fun s y => s.gone y now) s []) N.sb = N.sb := selS_id t.tk N.sb
      rw [e4]
      have e5 : updR N.tr j { t with gn := now, gM := [], gG := [] } = fun k => if k = j then (some t).map (stillT now) else N.tr k := by
        funext k
        by_cases c2 : k = j
        · subst c2
          rw [if_pos rfl]
          show (if k = k then some _ else _) = some (stillT now t)
          rw [if_pos rfl]
          unfold stillT
          rw [if_neg c]
        · rw [if_neg c2]
          exact if_neg c2
      rw [e5]
theorem asks_still {N : Nd} {now : Int} (h : ∀ k, k < 8 → ∀ t, N.tr k = some t → t.gM = []) : ∀ j, j ≤ 8 → N.asksG now j = { N with tr := stillF now N.tr j }
  | 0, _ => by
    have e : stillF now N.tr 0 = N.tr := by
      funext k
      exact if_neg (Nat.not_lt_zero k)
    rw [e]
    rfl
  | j + 1, hj => by
    show (N.asksG now j).askG j now = _
    rw [asks_still h j (by omega)]
    have e0 : stillF now N.tr j j = N.tr j := if_neg (Nat.lt_irrefl j)
    rw [ask_still (N := { N with tr := stillF now N.tr j }) (by intro t ht; exact h j (by omega) t (by rw [← e0]; exact ht))]
    have e : (fun k => if k = j then (stillF now N.tr j j).map (stillT now) else stillF now N.tr j k) = stillF now N.tr (j + 1) := by
      funext k
      by_cases c : k = j
      · subst c
        rw [if_pos rfl, e0]
        exact (if_pos (Nat.lt_succ_self k)).symm
      · rw [if_neg c]
        unfold stillF
        by_cases c2 : k < j
        · rw [if_pos c2, if_pos (by omega)]
        · rw [if_neg c2, if_neg (by omega)]
    show ({ N with tr := fun k => if k = j then (stillF now N.tr j j).map (stillT now) else stillF now N.tr j k } : Nd) = _
    rw [e]
theorem pop_still {s : Sb} {now : Int} (h : s.oM = []) (hx : -1 ≤ s.ox) : s.popd now = stillS now s := by
  have e0 : s.popK now = 0 := by
    unfold Sb.popK
    rw [h]
    have g : OM.goes [] (odF now []) s.ox = false := by
      show (false || decide (s.ox < -1)) = false
      simp
      omega
    rw [show (200 : Nat) = 199 + 1 from rfl, cnt, if_neg (by rw [g]; simp)]
  unfold Sb.popd
  rw [e0]
  unfold Sb.pop Sb.popped stillS
  rw [h]
  show (({ s with on := Order.qW s.on now, ox := s.ox + ((0 : Nat) : Int), oM := [] } : Sb)) = _
  rw [show s.ox + ((0 : Nat) : Int) = s.ox by omega, ← h]
theorem tick_still {N : Nd} {now : Int} (h : Lacks0 N) : N.tick now = (stillN N now).starts now (stillN N now).sb := by
  have e : (({ N with nw := now } : Nd).asksG now 8).pops now = stillN N now := by
    rw [asks_still (N := { N with nw := now }) h.gm 8 (Nat.le_refl _)]
    unfold Nd.pops popS stillN
    have e2 : (N.sb.map fun x => (x.1, x.2.popd now)) = N.sb.map fun x => (x.1, stillS now x.2) := by
      refine List.map_congr_left ?_
      intro x hx
      rw [pop_still (h.om x hx).1 (h.om x hx).2]
    show ({ N with nw := now, tr := stillF now N.tr 8, sb := N.sb.map fun x => (x.1, x.2.popd now) } : Nd) = _
    rw [e2]
  unfold Nd.tick
  rw [e]
theorem starts_none (now : Int) : ∀ (l : List (Int × Sb)) (N : Nd), (∀ x ∈ l, x.2.wants = false) → N.starts now l = N
  | [], N, _ => rfl
  | x :: l, N, h => by
    show (N.askS now x.2).starts now l = N
    have e : N.askS now x.2 = N := by
      unfold Nd.askS
      split
      · rfl
      · rw [if_pos (.inl (h x (List.mem_cons_self ..)))]
    rw [e]
    exact starts_none now l N (fun y hy => h y (List.mem_cons_of_mem _ hy))
theorem tick_quiet {N : Nd} {now : Int} (h : Lacks0 N) (hw : ∀ x ∈ N.sb, x.2.wants = false) : N.tick now = stillN N now := by
  rw [tick_still h, starts_none]
  intro x hx
  obtain ⟨y, hy, rfl⟩ := List.mem_map.1 hx
  exact hw y hy
theorem nogive_lacks {N : Nd} {now : Int} (h : Lacks0 N) : NoGive N now := by
  intro i hi t ht _
  rw [h.gm i hi t ht]
  rfl
/-- what a subscriber is, but for times -/
structure Core where
  id : Int
  tk : Int
  mo : Int
  ln : Int
  br : Bool
  got : List Pk
def core (x : Int × Sb) : Core := ⟨x.1, x.2.tk, x.2.mo, x.2.ln, x.2.br, x.2.got⟩
/-- nothing flies, nothing lacks -/
structure Calmed (Q : Plan) (h : Nat → Nat → Nat) (M : Ms) : Prop where
  ok : MOk M
  n : M.n = Q.n
  fl : M.fl = []
  tr : ∀ v, v < Q.n → ∀ k, k < 8 → Q.at k v = true → ∃ t, (M.nd v).tr k = some t ∧ TrH k (Q.p k) Q.n v (Q.sq k) (h k v) t
  no : ∀ v, v < Q.n → ∀ k, k < 8 → Q.at k v = false → (M.nd v).tr k = none
  sb : ∀ v, v < Q.n → (M.nd v).sb.map core = (Q.B v).map fun x => core (Q.sub h v x)
  om : ∀ v, v < Q.n → ∀ x ∈ (M.nd v).sb, x.2.oM = []
  ls : ∀ v, v < Q.n → (M.nd v).ls = ((Q.B v).length : Int)
theorem Pipe.calmed {Q : Plan} {h : Nat → Nat → Nat} {M : Ms} (hP : Pipe Q h [] M) : Calmed Q h M := by
  refine ⟨hP.ok, hP.n, by rw [hP.fl]; rfl, hP.tr, hP.no, ?_, ?_, hP.ls⟩
  · intro v hv
    rw [hP.sb v hv, List.map_map]
    rfl
  · intro v hv x hx
    rw [hP.sb v hv] at hx
    obtain ⟨y, hy, rfl⟩ := List.mem_map.1 hx
    exact (hP.sr v hv y hy).oM
theorem Calmed.lacks {Q : Plan} {h : Nat → Nat → Nat} {M : Ms} (hC : Calmed Q h M) {v : Nat} (hv : v < Q.n) : Lacks0 (M.nd v) := by
  obtain ⟨kN, _⟩ := hC.ok.nd v (by rw [hC.n]; exact hv)
  refine ⟨?_, fun x hx => ⟨hC.om v hv x hx, (kN.sb x hx).1.oi.x1⟩⟩
  intro k hk t ht
  cases ha : Q.at k v with
  | true =>
    obtain ⟨t', h1, h2⟩ := hC.tr v hv k hk ha
    rw [ht] at h1
    cases h1
    exact h2.gM
  | false =>
    rw [hC.no v hv k hk ha] at ht
    cases ht
theorem core_wants {x y : Int × Sb} (h : core x = core y) : x.2.wants = y.2.wants := by
  unfold core at h
  injection h with h1 h2 h3 h4 h5 h6
  unfold Sb.wants
  rw [h3, h4, h5]
/-- nobody wants a start -/
def Full (Q : Plan) (h : Nat → Nat → Nat) : Prop := ∀ v, v < Q.n → ∀ x ∈ Q.B v, (Q.sub h v x).2.wants = false
theorem Calmed.quiet {Q : Plan} {h : Nat → Nat → Nat} {M : Ms} (hC : Calmed Q h M) (hF : Full Q h) {v : Nat} (hv : v < Q.n) : ∀ x ∈ (M.nd v).sb, x.2.wants = false := by
  intro x hx
  have hm : core x ∈ (Q.B v).map fun x => core (Q.sub h v x) := by rw [← hC.sb v hv]; exact List.mem_map.2 ⟨x, hx, rfl⟩
  obtain ⟨y, hy, e⟩ := List.mem_map.1 hm
  rw [← core_wants e]
  exact hF v hv y hy
theorem Calmed.ticked {Q : Plan} {h : Nat → Nat → Nat} {M : Ms} (hC : Calmed Q h M) (hF : Full Q h) {now : Int} (h0 : M.nw ≤ now) (h1 : now ≤ 1000000) : Calmed Q h (M.ticked now M.n) := by
  have hnd : ∀ v, v < Q.n → (M.ticked now M.n).nd v = { stillN (M.nd v) now with lt := [] } := by
    intro v hv
    show (if v < M.n then ({ (M.nd v).tick now with lt := [] } : Nd) else M.nd v) = _
    rw [if_pos (by rw [hC.n]; exact hv), tick_quiet (hC.lacks hv) (hC.quiet hF hv)]
  refine ⟨hC.ok.ticked h0 h1 _, hC.n, ?_, ?_, ?_, ?_, ?_, fun v hv => by rw [hnd v hv]; exact hC.ls v hv⟩
  · show M.fl ++ _ = []
    rw [hC.fl, List.nil_append]
    have : ∀ l : List Nat, (∀ v ∈ l, v < Q.n) → (l.flatMap fun v => outs v ((M.nd v).tick now).lt) = [] := by
      intro l
      induction l with
      | nil => intro _; rfl
      | cons v l ih =>
        intro hl
        have hv := hl v (List.mem_cons_self ..)
        rw [List.flatMap_cons, ih (fun y hy => hl y (List.mem_cons_of_mem _ hy)), tick_quiet (hC.lacks hv) (hC.quiet hF hv)]
        have : (stillN (M.nd v) now).lt = [] := (hC.ok.nd v (by rw [hC.n]; exact hv)).2.1
        rw [this]
        rfl
    exact this _ (fun v hv => by rw [← hC.n]; simpa using hv)
  · intro v hv k hk ha
    obtain ⟨t, t1, t2⟩ := hC.tr v hv k hk ha
    refine ⟨stillT now t, ?_, ?_⟩
    · rw [hnd v hv]
      show (if k < 8 then ((M.nd v).tr k).map (stillT now) else (M.nd v).tr k) = _
      rw [if_pos hk, t1]
      rfl
    · unfold stillT
      split
      · exact t2
      · exact ⟨t2.tk, t2.ep, t2.pa, t2.kids, rfl, t2.gT, t2.rT⟩
  · intro v hv k hk ha
    rw [hnd v hv]
    show (if k < 8 then ((M.nd v).tr k).map (stillT now) else (M.nd v).tr k) = _
    rw [if_pos hk, hC.no v hv k hk ha]
    rfl
  · intro v hv
    rw [hnd v hv, ← hC.sb v hv]
    show ((M.nd v).sb.map fun x => (x.1, stillS now x.2)).map core = _
    rw [List.map_map]
    rfl
  · intro v hv x hx
    rw [hnd v hv] at hx
    obtain ⟨y, hy, rfl⟩ := List.mem_map.1 hx
    exact hC.om v hv y hy
/-- the lofts, but for their nodes, their time and what flies -/
structure Same (M M' : Ms) : Prop where
  E : M'.E = M.E
  rt : M'.rt = M.rt
  sb : M'.sb = M.sb
  n : M'.n = M.n
theorem Same.refl (M : Ms) : Same M M := ⟨rfl, rfl, rfl, rfl⟩
theorem Same.land {M M' : Ms} (h : Same M M') (i : Nat) (f : Fl) (m : Msg) (bv : Value) : Same M (M'.land i f m bv) := ⟨h.E, h.rt, h.sb, h.n⟩
theorem Same.ticked {M M' : Ms} (h : Same M M') (now : Int) (j : Nat) : Same M (M'.ticked now j) := ⟨h.E, h.rt, h.sb, h.n⟩
/-- all have heard what the roots have -/
def Heard (Q : Plan) (c : Nat → Nat) (h : Nat → Nat → Nat) : Prop := ∀ k, k < 8 → ∀ v, v < Q.n → Q.at k v = true → h k v = c k
def CalmJ (Q : Plan) (c : Nat → Nat) (M0 : Ms) (x0 : Bool) (r cc : Nat) (M : Ms) : Prop :=
  cc ≤ 2 ∧ ((r = 0 ∧ cc = 0 ∧ ∃ h X, Pipe Q h X M ∧ (∀ k, k < 8 → h k (Q.rt k) = c k) ∧ Same M0 M ∧ (X = [] ↔ x0 = true)) ∨ (1 ≤ r ∧ M.nw = Q.now + 3 * (r : Int) ∧ (cc = if x0 then r else r - 1) ∧ ∃ h, Calmed Q h M ∧ Heard Q c h ∧ Same M0 M))
theorem calm_round {Q : Plan} (hQ : Q.Ok) {c : Nat → Nat} {M0 : Ms} {x0 : Bool} (hF : ∀ h, Heard Q c h → Full Q h) (hnow : 0 ≤ Q.now ∧ Q.now ≤ 900000) : Round (CalmJ Q c M0 x0) := by
  refine ⟨?_⟩
  rintro r cc M ⟨hcc, ⟨rfl, rfl, h, X, hP, hc, hS, hX⟩ | ⟨hr1, hnw, hcr, h, hC, hH, hS⟩⟩ hr hc2
  · refine ⟨PipeI Q (fun h => ∀ k, k < 8 → h k (Q.rt k) = c k) (Same M0), left Q h, pipe_falls hQ _ ?_ _ (fun M i f m bv hs => hs.land i f m bv), ⟨h, X, hP, hc, hS, rfl⟩, ?_⟩
    · intro h k v hv hc k' hk'
      rw [upH_ne h (fun q => hv (by rw [← q.2, q.1]))]
      exact hc k' hk'
    · rintro g' M' ⟨h', X', hP', hc', hS', _⟩ hfl
      have hX' : X' = [] := by
        have := hP'.fl
        rw [hfl] at this
        cases X' with
        | nil => rfl
        | cons a b => cases this
      subst hX'
      have hC := hP'.calmed
      have hH : Heard Q c h' := by
        intro k hk v hv ha
        obtain ⟨a1, a2⟩ := Plan.at_iff.1 ha
        rw [hP'.all hQ hk a1 _ v hv a2 (Nat.le_refl _)]
        exact hc' k hk
      have hn := hP'.nw
      refine ⟨by omega, fun i hi => nogive_lacks (hC.lacks (by rw [← hP'.n]; exact hi)), ?_, .inr ⟨by omega, ?_, ?_, h', hC.ticked (hF h' hH) (by omega) (by omega), hH, hS'.ticked _ _⟩⟩
      · split <;> omega
      · show M'.nw + 3 = _
        rw [hn]
        omega
      · have e : M.fl.length = 0 ↔ X = [] := by
          rw [hP.fl, List.length_map]
          exact List.length_eq_zero_iff
        cases x0 with
        | true => rw [if_pos (e.2 (hX.2 rfl))]; rfl
        | false => rw [if_neg (fun q => by have := hX.1 (e.1 q); cases this)]; rfl
  · have hfl := hC.fl
    refine ⟨fun _ M' => M' = M, 0, ⟨?_, ?_⟩, rfl, ?_⟩
    · rintro g M' rfl
      exact ⟨hC.ok, by rw [hfl]; simp⟩
    · rintro g M' f F rfl hf
      rw [hfl] at hf
      cases hf
    · rintro g' M' rfl _
      refine ⟨by omega, fun i hi => nogive_lacks (hC.lacks (by rw [← hC.n]; exact hi)), ?_, .inr ⟨by omega, ?_, ?_, h, hC.ticked (hF h hH) (by omega) (by omega), hH, hS.ticked _ _⟩⟩
      · split <;> omega
      · show M'.nw + 3 = _
        rw [hnw]
        omega
      · rw [hfl, List.length_nil, if_pos (show (0 : Nat) = 0 from rfl), hcr]
        cases x0 <;> simp <;> omega
theorem calm_pipe {Q : Plan} (hQ : Q.Ok) {c : Nat → Nat} (hF : ∀ h, Heard Q c h → Full Q h) (hnow : 0 ≤ Q.now ∧ Q.now ≤ 900000) (b : Nat) (o : Nat → Tg) (P : MP) (M : Ms) (h : Nat → Nat → Nat) (X : List Fy) (w : World) (hM : MAt w o b P M) (hP : Pipe Q h X M) (hc : ∀ k, k < 8 → h k (Q.rt k) = c k) :
    Calls Tryz.prog 13 #[.pointer (some ⟨b, 0, none⟩)] w fun e w' => e = .returned (.int .i64 (if X = [] then 2 else 3)) ∧ ∃ h' M', Calmed Q h' M' ∧ Heard Q c h' ∧ Same M M' ∧ M'.nw = Q.now + (if X = [] then 6 else 9) ∧ MDone w w' o b M' := by
  obtain ⟨x0, hx0⟩ : ∃ x0 : Bool, X = [] ↔ x0 = true := ⟨decide (X = []), by simp⟩
  refine (calm_calls (CalmJ Q c M x0) (calm_round hQ hF hnow) b o P M w hM ⟨by omega, .inl ⟨rfl, rfl, h, X, hP, hc, Same.refl M, hx0⟩⟩).mono ?_
  rintro e w' ⟨r, cc, M', rfl, hr, he, ⟨hcc, hJ⟩, hd⟩
  rcases hJ with ⟨rfl, rfl, _⟩ | ⟨h1, hnw, hcr, h', hC, hH, hS⟩
  · omega
  · by_cases hX : X = []
    · rw [hx0.1 hX, if_pos rfl] at hcr
      have : r = 2 := by omega
      subst this
      rw [if_pos hX, if_pos hX]
      exact ⟨rfl, h', M', hC, hH, hS, by rw [hnw]; rfl, hd⟩
    · have e : x0 = false := by
        cases x0 with
        | true => exact absurd (hx0.2 rfl) hX
        | false => rfl
      rw [e, if_neg (by simp)] at hcr
      have : r = 3 := by omega
      subst this
      rw [if_neg hX, if_neg hX]
      exact ⟨rfl, h', M', hC, hH, hS, by rw [hnw]; rfl, hd⟩
end Go.Proofs.YtpiamlgmadnepaaGreat.MS

