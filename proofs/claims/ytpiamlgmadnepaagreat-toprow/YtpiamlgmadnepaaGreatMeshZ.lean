/-
  Calls of package mesh, in the words of packets that go down: for lofts that a statement made for itself.
-/
import Derived.Test.YtpiamlgmadnepaaGreatMeshY
namespace Go.Proofs.YtpiamlgmadnepaaGreat.MS
open Go.ChangeShapes Go.WideShapes Go.ChangeAt Go.RowKit Go.Maps Go.Proofs.YtpiamlgmadnepaaGreat.Mem Go.Proofs.YtpiamlgmadnepaaGreat.NO Go.Proofs.YtpiamlgmadnepaaGreat.ND
set_option linter.unusedVariables false

def PZ (w W : World) (b : Nat) (Q : Plan) (h : Nat → Nat → Nat) (X : List Fy) (rt : Nat → Int) (sb : List (Int × Int)) : Prop := ∃ M, Zt w W b M ∧ Pipe Q h X M ∧ M.rt = rt ∧ M.sb = sb ∧ M.E = Q.E
theorem PZ.below {w W W' : World} {b : Nat} {Q : Plan} {h : Nat → Nat → Nat} {X : List Fy} {rt : Nat → Int} {sb : List (Int × Int)} (hz : PZ w W b Q h X rt sb) (hb : Below W.heap.size W W') : PZ w W' b Q h X rt sb := by
  obtain ⟨M, h1, h2⟩ := hz
  exact ⟨M, h1.below hb, h2⟩
theorem PZ.bel {w W : World} {b : Nat} {Q : Plan} {h : Nat → Nat → Nat} {X : List Fy} {rt : Nat → Int} {sb : List (Int × Int)} (hz : PZ w W b Q h X rt sb) : Below w.heap.size w W := by
  obtain ⟨M, h1, h2⟩ := hz
  exact h1.bel
theorem pz_new {w W : World} {Q : Plan} (hw : Below w.heap.size w W) (a : Option Addr) (n cap : Nat) (hA : Tree.EArg W a n Q.E) (hn0 : a = none → n = 0 ∧ cap = 0) (hnc : n ≤ cap) (hf : TM.ef (Q.n : Int) Q.E = 0) (hnow : Q.now = 0) (ho : ∀ k, Q.on k = false) (hB : ∀ v, Q.B v = []) :
    Calls Tryz.prog 6 #[.int .i64 (Q.n : Int), .slice a n cap] W fun e w' => ∃ b, e = .returned (.tuple #[.pointer (some ⟨b, 0, none⟩), .nilIface]) ∧ PZ w w' b Q zeroH [] (fun _ => -1) [] := by
  obtain ⟨_, hfit⟩ := TM.ef_zero.1 hf
  rw [Int.toNat_natCast] at hfit
  refine (new_calls (fun _ => nobody) (fun k => by show 0 ≠ 1000; omega) Q.n a n cap Q.E W hA hn0 hnc hf).mono ?_
  rintro e w' ⟨b, rfl, hm⟩
  exact ⟨b, rfl, _, Zt.made hw hm, pipe_mesh0 hfit.lo hfit.hi hnow ho hB, rfl, rfl, rfl⟩
theorem pz_publish {w W : World} {b : Nat} {Q : Plan} {rt : Nat → Int} {sb : List (Int × Int)} (hz : PZ w W b Q zeroH [] rt sb) {k : Nat} (hk : k < 8) (hoff : Q.on k = false) (hrt : rt k = -1) (hr : Q.rt k < Q.n) (hf : TM.ef (Q.n : Int) Q.E = 0) :
    Calls Tryz.prog 8 #[.pointer (some ⟨b, 0, none⟩), .int .i64 ((k : Int) + 1), .int .i64 (Q.rt k : Int)] W fun e w' => e = .returned .nilIface ∧ ∃ p d, Trees Q.n (Q.rt k) Q.E p d ∧ PZ w w' b (Q.publish k p d) zeroH [] (updN rt k (Q.rt k : Int)) sb := by
  obtain ⟨M, ⟨o, P, h1, h2, h3⟩, hP, e1, e2, e3⟩ := hz
  refine (publish_calls b k (Q.rt k) o P M W h1 hP.ok (by rw [hP.n, e3]; exact hf) hk (by rw [hP.n]; exact hr) (by rw [e1]; exact hrt) (fun i hi => hP.no i (by rw [← hP.n]; exact hi) k hk (by unfold Plan.at; rw [hoff]; rfl))).mono ?_
  rintro e w' ⟨rfl, p, d, hT, hd⟩
  rw [hP.n, e3] at hT
  exact ⟨rfl, p, d, hT, _, Zt.next (M := M) h3 h2 hd, pipe_publish hP hk hoff hT e3, by rw [← e1]; rfl, e2, e3⟩
theorem pz_sub {w W : World} {b : Nat} {Q : Plan} {rt : Nat → Int} {sb : List (Int × Int)} (hz : PZ w W b Q zeroH [] rt sb) {k v : Nat} (hk : k < 8) (hv : v < Q.n) (hat : Q.at k v = true) {mo : Int} (h0 : 0 ≤ mo) (h3 : mo ≤ 3) (hl : (Q.B v).length < 20) (hsb : sb.length ≤ 1000) :
    Calls Tryz.prog 9 #[.pointer (some ⟨b, 0, none⟩), .int .i64 ((k : Int) + 1), .int .i64 (v : Int), .int .i64 mo] W fun e w' => e = .returned (.tuple #[.int .i64 ((sb.length : Int) + 1), .nilIface]) ∧ PZ w w' b (Q.addS v (((Q.B v).length : Int) + 1, s0 ((k : Int) + 1) mo)) zeroH [] rt (sb ++ [((v : Int), ((Q.B v).length : Int) + 1)]) := by
  obtain ⟨M, ⟨o, P, h1, h2, hb⟩, hP, e1, e2, e3⟩ := hz
  have hvn : v < M.n := by rw [hP.n]; exact hv
  obtain ⟨t, t1, t2⟩ := hP.tr v hv k hk hat
  have hls := hP.ls v hv
  have hsl : (M.nd v).sb.length = (Q.B v).length := by rw [hP.sb v hv, List.length_map]
  have hsF : sF (M.nd v) ((k : Int) + 1) mo = 0 := by
    unfold sF
    rw [if_neg (by simp [okT]; omega), if_neg (by omega), if_neg, if_neg (by omega)]
    unfold Nd.at
    rw [show (((k : Int) + 1) - 1).toNat = k by omega, t1]
    simp
  have hI := (hP.ok.nd v hvn).1.si
  refine (sub_calls b v o P M ((k : Int) + 1) mo W h1 hvn hsF hI (by omega) (by rw [e2]; omega)).mono ?_
  rintro e w' ⟨rfl, hd⟩
  rw [e2]
  refine ⟨rfl, _, Zt.next (M := M) hb h2 hd, ?_, e1, ?_, e3⟩
  · have := pipe_sub hP hk hv hat h0 h3 hl (by omega)
    rw [hls] at this
    exact this
  · show M.sb ++ [((v : Int), (M.nd v).ls + 1)] = _
    rw [e2, hls]
theorem pz_send {w W0 W : World} {b : Nat} {Q : Plan} (hQ : Q.Ok) {h : Nat → Nat → Nat} {X : List Fy} {rt : Nat → Int} {sb : List (Int × Int)} (hz : PZ w W0 b Q h X rt sb) (hb0 : Below W0.heap.size W0 W) {k : Nat} (hk : k < 8) (hon : Q.on k = true) (hrt : rt k = (Q.rt k : Int)) (hi : h k (Q.rt k) < Q.mx k) (a : Option Addr) (c : Nat) {p : Pk} (hp : Q.pk k (h k (Q.rt k)) = p) (hA : Arg W a p.L.length p.L) (hno : a = none → p.L.length = 0 ∧ c = 0) (ha : 0 < p.L.length → ∀ ad, a = some ad → ad.block < w.heap.size ∨ W0.heap.size ≤ ad.block) :
    Calls Tryz.prog 12 #[.pointer (some ⟨b, 0, none⟩), .int .i64 ((k : Int) + 1), .agg #[.int .i64 p.s, .int .i64 p.t, .int .i64 p.l, .int .i64 p.q, .bool p.st, .slice a p.L.length c]] W fun e w' => e = .returned .nilIface ∧ PZ w w' b Q (upH h k (Q.rt k)) (X ++ Q.news k (Q.rt k) (h k (Q.rt k))) rt sb := by
  obtain ⟨M, ⟨o, P, h1, h2, hb⟩, hP, e1, e2, e3⟩ := hz
  have m1 := h1.grow hb0 nobody
  have m2 : ∀ k, k < w.heap.size → (grow o W0 nobody k).n = 0 := by
    intro k hk
    rw [grow_old (Nat.lt_of_lt_of_le hk hb.size)]
    exact h2 k hk
  have m3 : 0 < p.L.length → ∀ ad, a = some ad → (grow o W0 nobody ad.block).n = 0 := by
    intro hm ad e
    rcases ha hm ad e with q | q
    · exact m2 _ q
    · rw [grow_new q]
  have hT := hQ.tr k hk hon
  have hr : Q.rt k < Q.n := hT.rn
  obtain ⟨t, t1, t2⟩ := hP.tr (Q.rt k) hr k hk (Plan.at_iff.2 ⟨hon, by rw [hT.root_d]; omega⟩)
  have hpk := hQ.pk k hk _ hi
  rw [hp] at hpk
  have C := send_calls b k (Q.rt k) (grow o W0 nobody) P M t p.s p.t p.l p.q p.st a p.L.length c p.L W m1 hP.ok hk (by rw [e1]; exact hrt) (by rw [hP.n]; exact hr) t1 (by rw [t2.pa]; exact hT.root_pa) hA hno m3 (Nat.le_trans (hP.few hQ) (by omega))
  rw [hpk.f] at C
  refine C.mono ?_
  rintro e w' ⟨rfl, _, hd⟩
  exact ⟨rfl, _, Zt.next (M := M) (hb.trans (hb0.mono hb.size)) m2 (hd rfl), hP.send hQ hk hon hi t1 hp.symm, e1, e2, e3⟩
theorem pz_flying {w W : World} {b : Nat} {Q : Plan} {h : Nat → Nat → Nat} {X : List Fy} {rt : Nat → Int} {sb : List (Int × Int)} (hz : PZ w W b Q h X rt sb) :
    Calls Tryz.prog 60 #[.pointer (some ⟨b, 0, none⟩)] W fun e w' => e = .returned (.int .i64 (X.length : Int)) ∧ w' = W := by
  obtain ⟨M, ⟨o, P, h1, h2, hb⟩, hP, e1, e2, e3⟩ := hz
  have := flying_calls b o P M W h1
  rw [hP.fl, List.length_map] at this
  exact this
theorem pz_land {w W : World} {b : Nat} {Q : Plan} (hQ : Q.Ok) {h : Nat → Nat → Nat} {x : Fy} {X : List Fy} {rt : Nat → Int} {sb : List (Int × Int)} (hz : PZ w W b Q h (x :: X) rt sb) :
    Calls Tryz.prog 41 #[.pointer (some ⟨b, 0, none⟩), .int .i64 0] W fun e w' => e = .returned .nilIface ∧ PZ w w' b Q (upH h x.k x.v) (X ++ Q.news x.k x.v (h x.k x.v)) rt sb := by
  obtain ⟨M, ⟨o, P, h1, h2, hb⟩, hP, e1, e2, e3⟩ := hz
  obtain ⟨m, hL, hm⟩ := hP.land hQ
  refine (land_calls b o P M 0 (Q.frm x) m W h1 hP.ok (by rw [hP.fl]; rfl) hL (Nat.le_trans (hP.few hQ) (by omega))).mono ?_
  rintro e w' ⟨rfl, bv, hd⟩
  exact ⟨rfl, _, Zt.next (M := M) hb h2 hd, hm bv, e1, e2, e3⟩
/-- what a subscriber got -/
theorem pz_got {w W : World} {b : Nat} {Q : Plan} {h : Nat → Nat → Nat} {X : List Fy} {rt : Nat → Int} {sb : List (Int × Int)} (hz : PZ w W b Q h X rt sb) {j v : Nat} {A C : List (Int × Sb)} {x : Int × Sb} (hj : sb[j]? = some ((v : Int), x.1)) (hv : v < Q.n) (hB : Q.B v = A ++ x :: C) (hl : sb.length ≤ 1000) :
    Calls Tryz.prog 14 #[.pointer (some ⟨b, 0, none⟩), .int .i64 ((j : Int) + 1)] W fun e w' => ∃ a c o, e = .returned (.tuple #[.slice a (Q.sub h v x).2.got.length c, .nilIface]) ∧ GotAt w' o (.slice a (Q.sub h v x).2.got.length c) (Q.sub h v x).2.got ∧ Below w.heap.size w w' := by
  obtain ⟨M, ⟨o, P, h1, h2, hb⟩, hP, e1, e2, e3⟩ := hz
  have hvn : v < M.n := by rw [hP.n]; exact hv
  have hs : (M.nd v).sb = A.map (Q.sub h v) ++ (x.1, (Q.sub h v x).2) :: C.map (Q.sub h v) := by
    rw [hP.sb v hv, hB, List.map_append, List.map_cons]
    rfl
  refine (got_callsM b j v x.1 o P M (Q.sub h v x).2 _ _ W h1 (by rw [e2]; exact hj) hvn hs (hP.ok.nd v hvn).1.si (by rw [e2]; omega)).mono ?_
  rintro e w' ⟨a, c, rfl, o', P', g1, g2, g3, g4, g5⟩
  exact ⟨a, c, o', rfl, g2, chg_below hb h2 g5⟩
end Go.Proofs.YtpiamlgmadnepaaGreat.MS

