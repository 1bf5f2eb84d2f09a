/-
  The stages of MeshTells: what each call of it returns and leaves.
-/
import Derived.Test.YtfgponidkfgcpaaGreatDoorTellsAP
import Derived.Test.YtfgponidkfgcpaaGreatDoorLawPkP
namespace Go.Proofs.YtfgponidkfgcpaaGreatDoor.MS
open Go.ChangeShapes Go.WideShapes Go.ChangeAt Go.RowKit Go.Maps Go.Proofs.YtfgponidkfgcpaaGreatDoor.Mem Go.Proofs.YtfgponidkfgcpaaGreatDoor.NO Go.Proofs.YtfgponidkfgcpaaGreatDoor.ND
set_option linter.unusedVariables false
def tp : Pk := ⟨3, 3, 0, 0, true, [3, 0]⟩
def tq (n r k : Nat) (E : List TM.Ed) : Plan := ⟨n, 0, E, fun _ => false, fun _ => r, fun _ => [], fun _ => [], fun _ => 3, fun _ _ => tp, fun j => if j = k then 1 else 0, fun _ => []⟩
theorem tq_ok (n r k : Nat) (E : List TM.Ed) : (tq n r k E).Ok := by
  refine ⟨(fun k hk ho => by cases ho), ?_, ?_⟩
  · intro j hj i hi
    have hi : i < (if j = k then 1 else 0) := hi
    split at hi
    · have : i = 0 := by omega
      subst this
      exact ⟨rfl, by show 3 + 0 ≤ 65535; omega, by show PM.fault 3 3 0 0 2 = 0; decide, by show ∀ c ∈ [3, 0], c < 256; decide⟩
    · omega
  · intro j
    show (if j = k then 1 else 0) ≤ 1000
    split <;> omega
def tR0 : Nat → Int := fun _ => -1
theorem t_send0 {w W : World} {b : Nat} {Q : Plan} {h : Nat → Nat → Nat} {X : List Fy} {sb : List (Int × Int)} (hz : PZ w W b Q h X tR0 sb) (tk s t l q : Int) (st : Bool) (a : Option Addr) (m c : Nat) :
    Calls Tryz.prog 7 #[.pointer (some ⟨b, 0, none⟩), .int .i64 tk, .agg #[.int .i64 s, .int .i64 t, .int .i64 l, .int .i64 q, .bool st, .slice a m c]] W fun e w' => e = .returned (errv (if okT tk = true then 5 else 1)) ∧ Below W.heap.size W w' := by
  obtain ⟨M, ⟨o, P, h1, h2, hb⟩, hP, e1, e2, e3⟩ := hz
  by_cases c' : okT tk = true
  · rw [if_pos c']
    have := of_decide_eq_true c'
    obtain ⟨k, rfl⟩ : ∃ k : Nat, tk = (k : Int) + 1 := ⟨(tk - 1).toNat, by omega⟩
    exact send_none b k o P M s t l q st a m c W h1 (by omega) (by rw [e1]; rfl)
  · rw [if_neg c']
    exact send_track b tk s t l q st _ W (by simpa using c') ⟨a, m, c, rfl⟩
theorem t_pub_range {w W : World} {b : Nat} {Q : Plan} {h : Nat → Nat → Nat} {X : List Fy} {rt : Nat → Int} {sb : List (Int × Int)} (hz : PZ w W b Q h X rt sb) (tk at' : Int) (hr : okT tk = false ∨ ¬ (0 ≤ at' ∧ at' < (Q.n : Int))) :
    Calls Tryz.prog 8 #[.pointer (some ⟨b, 0, none⟩), .int .i64 tk, .int .i64 at'] W fun e w' => e = .returned (errv 1) ∧ w' = W := by
  obtain ⟨M, ⟨o, P, h1, h2, hb⟩, hP, e1, e2, e3⟩ := hz
  exact publish_range b o P M tk at' W h1 (by rw [hP.n]; exact hr)
theorem t_pub_twice {w W : World} {b : Nat} {Q : Plan} {h : Nat → Nat → Nat} {X : List Fy} {rt : Nat → Int} {sb : List (Int × Int)} (hz : PZ w W b Q h X rt sb) {k r : Nat} (hk : k < 8) (hr : r < Q.n) (hrt : rt k ≠ -1) :
    Calls Tryz.prog 8 #[.pointer (some ⟨b, 0, none⟩), .int .i64 ((k : Int) + 1), .int .i64 (r : Int)] W fun e w' => e = .returned (errv 7) ∧ w' = W := by
  obtain ⟨M, ⟨o, P, h1, h2, hb⟩, hP, e1, e2, e3⟩ := hz
  exact publish_clash b k r o P M W h1 hk (by rw [hP.n]; exact hr) (by rw [e1]; exact hrt)
structure TQ (Q : Plan) (n r k : Nat) (E : List TM.Ed) (p d : List Int) : Prop where
  ok : Q.Ok
  n : Q.n = n
  now : Q.now = 0
  on : Q.on k = true
  rt : Q.rt k = r
  mx : Q.mx k = 1
  pk : Q.pk k 0 = tp
  p : Q.p k = p
  d : Q.d k = d
theorem tq_pub {n r k : Nat} {E : List TM.Ed} {p d : List Int} (hT : Trees n r E p d) : TQ ((tq n r k E).publish k p d) n r k E p d :=
  ⟨(tq_ok n r k E).publish hT, rfl, rfl, (publish_at _ k p d).1, rfl, if_pos rfl, rfl, (publish_at _ k p d).2.1, (publish_at _ k p d).2.2⟩
theorem t_pub {w W : World} {b n r k : Nat} {E : List TM.Ed} (hz : PZ w W b (tq n r k E) zeroH [] tR0 []) (hk : k < 8) (hr : r < n) (hf : TM.ef (n : Int) E = 0) :
    Calls Tryz.prog 8 #[.pointer (some ⟨b, 0, none⟩), .int .i64 ((k : Int) + 1), .int .i64 (r : Int)] W fun e w' => e = .returned .nilIface ∧ ∃ p d, Trees n r E p d ∧ PZ w w' b ((tq n r k E).publish k p d) zeroH [] (updN tR0 k (r : Int)) [] := by
  exact pz_publish hz hk rfl rfl hr hf
def subf (n : Nat) (d : List Int) (at' mo : Int) : Nat := if at' < 0 ∨ (n : Int) ≤ at' ∨ mo < 0 ∨ 3 < mo then 1 else if TM.dg d at'.toNat < 0 then 5 else 0
def TZ (w W : World) (b n r k : Nat) (E : List TM.Ed) (p d : List Int) : Prop := ∃ Q sb, TQ Q n r k E p d ∧ PZ w W b Q zeroH [] (updN tR0 k (r : Int)) sb ∧ sb.length ≤ 1
theorem TZ.bel {w W : World} {b n r k : Nat} {E : List TM.Ed} {p d : List Int} (h : TZ w W b n r k E p d) : Below w.heap.size w W := by
  obtain ⟨Q, sb, _, hz, _⟩ := h
  exact hz.bel
theorem TZ.below {w W W' : World} {b n r k : Nat} {E : List TM.Ed} {p d : List Int} (h : TZ w W b n r k E p d) (hb : Below W.heap.size W W') : TZ w W' b n r k E p d := by
  obtain ⟨Q, sb, h1, hz, h2⟩ := h
  exact ⟨Q, sb, h1, hz.below hb, h2⟩
theorem t_sub {w W : World} {b n r k : Nat} {E : List TM.Ed} {p d : List Int} (hT : Trees n r E p d) (hk : k < 8) (hz : PZ w W b ((tq n r k E).publish k p d) zeroH [] (updN tR0 k (r : Int)) []) (at' mo : Int) :
    Calls Tryz.prog 10 #[.pointer (some ⟨b, 0, none⟩), .int .i64 ((k : Int) + 1), .int .i64 at', .int .i64 mo] W fun e w' => e = .returned (.tuple #[.int .i64 (if subf n d at' mo = 0 then 1 else 0), errv (subf n d at' mo)]) ∧ TZ w w' b n r k E p d := by
  by_cases c1 : 0 ≤ at' ∧ at' < (n : Int)
  · obtain ⟨v, rfl⟩ : ∃ v : Nat, at' = (v : Int) := ⟨at'.toNat, by omega⟩
    have hv : v < n := by omega
    by_cases c2 : (mo < 0 ∨ 3 < mo) ∨ TM.dg d v < 0
    · have hz' := hz
      obtain ⟨M, ⟨o, P, h1, h2, hb⟩, hP, e1, e2, e3⟩ := hz
      have hok := (hP.ok.nd v (by rw [hP.n]; exact hv)).1
      have key : sF (M.nd v) ((k : Int) + 1) mo = subf n d (v : Int) mo ∧ subf n d (v : Int) mo ≠ 0 := by
        have hk1 : ¬ okT ((k : Int) + 1) = false := by simp [okT]; omega
        by_cases c3 : mo < 0 ∨ 3 < mo
        · have e1 : sF (M.nd v) ((k : Int) + 1) mo = 1 := by unfold sF; rw [if_neg hk1, if_pos c3]
          have e2 : subf n d (v : Int) mo = 1 := by unfold subf; rw [if_pos (by omega)]
          exact ⟨e1.trans e2.symm, by omega⟩
        · have c4 : TM.dg d v < 0 := by omega
          have e2 : subf n d (v : Int) mo = 5 := by unfold subf; rw [Int.toNat_natCast, if_neg (by omega), if_pos c4]
          have : (M.nd v).tr k = none := hP.no v hv k hk (by
            cases ha : ((tq n r k E).publish k p d).at k v with
            | false => rfl
            | true =>
              have := (Plan.at_iff.1 ha).2
              rw [(publish_at (tq n r k E) k p d).2.2] at this
              omega)
          have e1 : sF (M.nd v) ((k : Int) + 1) mo = 5 := by
            unfold sF
            rw [if_neg hk1, if_neg c3, if_pos (by show ((M.nd v).tr (((k : Int) + 1) - 1).toNat).isNone = true; rw [show (((k : Int) + 1) - 1).toNat = k by omega, this]; rfl)]
          exact ⟨e1.trans e2.symm, by omega⟩
      rw [if_neg key.2, ← key.1]
      refine (sub_badM b v o P M ((k : Int) + 1) mo W h1 (by rw [hP.n]; exact hv) (by rw [key.1]; exact key.2) hok.si).mono ?_
      rintro e w' ⟨rfl, hb'⟩
      exact ⟨rfl, _, [], tq_pub hT, hz'.below hb', by simp⟩
    · have hs : subf n d (v : Int) mo = 0 := by
        unfold subf
        rw [Int.toNat_natCast, if_neg (by omega), if_neg (by omega)]
      rw [hs, if_pos rfl]
      refine (pz_sub hz hk hv (Plan.at_iff.2 ⟨(publish_at _ k p d).1, by rw [(publish_at (tq n r k E) k p d).2.2]; omega⟩) (by omega) (by omega) (by show (0 : Nat) < 20; omega) (by simp)).mono ?_
      rintro e w' ⟨rfl, hz'⟩
      refine ⟨rfl, _, _, ?_, hz', by simp⟩
      have hq := tq_pub (k := k) hT
      exact ⟨hq.ok.addS _ _, hq.n, hq.now, hq.on, hq.rt, hq.mx, hq.pk, hq.p, hq.d⟩
  · have hs : subf n d at' mo = 1 := by
      unfold subf
      rw [if_pos (by omega)]
    rw [hs, if_neg (by omega)]
    have hz' := hz
    obtain ⟨M, ⟨o, P, h1, h2, hb⟩, hP, e1, e2, e3⟩ := hz
    refine (sub_range b o P M ((k : Int) + 1) at' mo W h1 (by rw [hP.n]; exact c1)).mono ?_
    rintro e w' ⟨rfl, rfl⟩
    exact ⟨rfl, _, [], tq_pub hT, hz', by simp⟩
def TU (w W : World) (b K : Nat) (now : Int) : Prop := ∃ M, Zt w W b M ∧ MOk M ∧ M.fl.length = K ∧ M.nw = now
def TS (w W : World) (b K : Nat) : Prop := ∃ M, Zt w W b M ∧ MOk M ∧ M.fl.length = K ∧ M.nw = 0 ∧ M.sb.length ≤ 1 ∧ ∀ i, i < M.n → Lacks0 (M.nd i)
theorem TU.bel {w W : World} {b K : Nat} {now : Int} (h : TU w W b K now) : Below w.heap.size w W := by
  obtain ⟨M, hz, _⟩ := h
  exact hz.bel
theorem TU.below {w W W' : World} {b K : Nat} {now : Int} (h : TU w W b K now) (hb : Below W.heap.size W W') : TU w W' b K now := by
  obtain ⟨M, hz, h1⟩ := h
  exact ⟨M, hz.below hb, h1⟩
theorem TS.bel {w W : World} {b K : Nat} (h : TS w W b K) : Below w.heap.size w W := by
  obtain ⟨M, hz, _⟩ := h
  exact hz.bel
theorem TS.below {w W W' : World} {b K : Nat} (h : TS w W b K) (hb : Below W.heap.size W W') : TS w W' b K := by
  obtain ⟨M, hz, h1⟩ := h
  exact ⟨M, hz.below hb, h1⟩
theorem pipe_lacks {Q : Plan} {h : Nat → Nat → Nat} {X : List Fy} {M : Ms} (hP : Pipe Q h X M) {v : Nat} (hv : v < Q.n) : Lacks0 (M.nd v) := by
  obtain ⟨kN, _⟩ := hP.ok.nd v (by rw [hP.n]; exact hv)
  refine ⟨?_, fun x hx => ⟨?_, (kN.sb x hx).1.oi.x1⟩⟩
  · intro k hk t ht
    cases ha : Q.at k v with
    | true =>
      obtain ⟨t', h1, h2⟩ := hP.tr v hv k hk ha
      rw [ht] at h1
      cases h1
      exact h2.gM
    | false =>
      rw [hP.no v hv k hk ha] at ht
      cases ht
  · rw [hP.sb v hv] at hx
    obtain ⟨y, hy, rfl⟩ := List.mem_map.1 hx
    exact (hP.sr v hv y hy).oM
theorem t_send {w W0 W : World} {b n r k : Nat} {E : List TM.Ed} {p d : List Int} (hT : Trees n r E p d) (hk : k < 8) (hz : TZ w W0 b n r k E p d) (hb0 : Below W0.heap.size W0 W) (g : Nat) (hA : Arg W (some ⟨g, 0, none⟩) 2 [3, 0]) (hg : W0.heap.size ≤ g) :
    Calls Tryz.prog 7 #[.pointer (some ⟨b, 0, none⟩), .int .i64 ((k : Int) + 1), .agg #[.int .i64 3, .int .i64 3, .int .i64 0, .int .i64 0, .bool true, .slice (some ⟨g, 0, none⟩) 2 2]] W fun e w' => e = .returned .nilIface ∧ TS w w' b (nkid p (r : Int) E) := by
  obtain ⟨Q, sb, hq, hz, hl⟩ := hz
  refine (pz_send hq.ok hz hb0 hk hq.on (by rw [updN_at, hq.rt]) (by show 0 < Q.mx k; rw [hq.mx]; omega) (some ⟨g, 0, none⟩) 2 (p := tp) hq.pk hA (fun e => by cases e) (fun _ ad e => by cases e; exact .inr hg)).mono ?_
  rintro e w' ⟨rfl, M, h1, hP, e1, e2, e3⟩
  refine ⟨rfl, M, h1, hP.ok, ?_, by rw [hP.nw, hq.now], by rw [e2]; exact hl, fun i hi => pipe_lacks hP (by rw [← hP.n]; exact hi)⟩
  rw [hP.fl, List.length_map, List.nil_append, nkid_kids hT]
  unfold Plan.news TM.kd
  rw [List.length_map, List.length_map, hq.rt, hq.p, hq.n]
theorem t_flying {w W : World} {b K : Nat} {now : Int} (h : TU w W b K now) : Calls Tryz.prog 12 #[.pointer (some ⟨b, 0, none⟩)] W fun e w' => e = .returned (.int .i64 (K : Int)) ∧ w' = W := by
  obtain ⟨M, ⟨o, P, h1, h2, hb⟩, hM, e1, e2⟩ := h
  rw [← e1]
  exact flying_calls b o P M W h1
theorem TS.tu {w W : World} {b K : Nat} (h : TS w W b K) : TU w W b K 0 := by
  obtain ⟨M, h1, h2, h3, h4, _⟩ := h
  exact ⟨M, h1, h2, h3, h4⟩
theorem t_land {w W : World} {b K : Nat} {now : Int} (h : TU w W b K now) : Calls Tryz.prog 13 #[.pointer (some ⟨b, 0, none⟩), .int .i64 (K : Int)] W fun e w' => e = .returned (errv 1) ∧ Below W.heap.size W w' := by
  obtain ⟨M, ⟨o, P, h1, h2, hb⟩, hM, e1, e2⟩ := h
  exact land_no b o P M (K : Int) W h1 (by omega)
theorem t_lose {w W : World} {b K : Nat} {now : Int} (h : TU w W b K now) : Calls Tryz.prog 14 #[.pointer (some ⟨b, 0, none⟩), .int .i64 (-1)] W fun e w' => e = .returned (errv 1) ∧ Below W.heap.size W w' := by
  obtain ⟨M, ⟨o, P, h1, h2, hb⟩, hM, e1, e2⟩ := h
  exact lose_no b o P M (-1) W h1 (by omega)
theorem t_twice {w W : World} {b K : Nat} {now : Int} (h : TU w W b K now) : Calls Tryz.prog 15 #[.pointer (some ⟨b, 0, none⟩), .int .i64 (K : Int)] W fun e w' => e = .returned (errv 1) ∧ w' = W := by
  obtain ⟨M, ⟨o, P, h1, h2, hb⟩, hM, e1, e2⟩ := h
  exact twice_no b o P M (K : Int) W h1 (by omega)
theorem t_got {w W : World} {b K : Nat} (h : TS w W b K) : Calls Tryz.prog 16 #[.pointer (some ⟨b, 0, none⟩), .int .i64 2] W fun e w' => e = .returned (.tuple #[.slice none 0 0, errv 5]) ∧ Below W.heap.size W w' := by
  obtain ⟨M, ⟨o, P, h1, h2, hb⟩, hM, e1, e2, e3, _⟩ := h
  exact got_none b o P M 2 W h1 (by omega)
def tickf (by' : Int) : Nat := if by' < 1 ∨ 1000 < by' then 1 else 0
theorem t_tick {w W : World} {b K : Nat} (h : TS w W b K) (hK : K ≤ 400) (by' : Int) : Calls Tryz.prog 17 #[.pointer (some ⟨b, 0, none⟩), .int .i64 by'] W fun e w' => e = .returned (errv (tickf by')) ∧ ∃ K', K ≤ K' ∧ K' < 900 ∧ TU w w' b K' (if tickf by' = 0 then by' else 0) := by
  obtain ⟨M, ⟨o, P, h1, h2, hb⟩, hM, e1, e2, e3, e4⟩ := h
  by_cases c : by' < 1 ∨ 1000 < by'
  · have : tickf by' = 1 := if_pos c
    rw [this, if_neg (by omega)]
    refine (tick_range b by' W c).mono ?_
    rintro e w' ⟨rfl, rfl⟩
    exact ⟨rfl, K, Nat.le_refl _, by omega, M, ⟨o, P, h1, h2, hb⟩, hM, e1, e2⟩
  · have : tickf by' = 0 := if_neg c
    rw [this, if_pos rfl]
    refine (tick_calls b o P M by' W h1 hM (by omega) (by omega) (by omega) (fun i hi => nogive_lacks (e4 i hi)) (by omega)).mono ?_
    rintro e w' ⟨rfl, hd⟩
    refine ⟨rfl, (M.ticked (M.nw + by') M.n).fl.length, ?_, ?_, M.ticked (M.nw + by') M.n, Zt.next (M := M) hb h2 hd, hM.ticked (by omega) (by omega) _, rfl, by show M.nw + by' = by'; omega⟩
    · show K ≤ (M.fl ++ _).length
      rw [List.length_append, e1]
      omega
    · show (M.fl ++ (List.range M.n).flatMap fun k => outs k ((M.nd k).tick (M.nw + by')).lt).length < 900
      rw [List.length_append, e1]
      have := outs_len M (M.nw + by') M.n (fun k hk => hM.tick28 _ hk)
      have := hM.n16
      omega
theorem t_twice0 {w W : World} {b K : Nat} {now : Int} (h : TU w W b K now) (h0 : 0 < K) (h9 : K < 900) : Calls Tryz.prog 15 #[.pointer (some ⟨b, 0, none⟩), .int .i64 0] W fun e w' => e = .returned .nilIface ∧ TU w w' b (K + 1) now := by
  obtain ⟨M, ⟨o, P, h1, h2, hb⟩, hM, e1, e2⟩ := h
  have hf : M.fl[0]? = some M.fl[0] := List.getElem?_eq_getElem (by omega)
  refine (twice_calls b o P M 0 M.fl[0] W h1 hf (by omega)).mono ?_
  rintro e w' ⟨rfl, hd⟩
  refine ⟨rfl, M.twice M.fl[0], Zt.next (M := M) hb h2 hd, ⟨hM.n1, hM.n16, hM.nw, hM.nd⟩, ?_, e2⟩
  show (M.fl ++ [M.fl[0]]).length = K + 1
  rw [List.length_append, List.length_singleton]
  omega
theorem t_lose0 {w W : World} {b K : Nat} {now : Int} (h : TU w W b (K + 1) now) : Calls Tryz.prog 14 #[.pointer (some ⟨b, 0, none⟩), .int .i64 0] W fun e w' => e = .returned .nilIface ∧ TU w w' b K now := by
  obtain ⟨M, ⟨o, P, h1, h2, hb⟩, hM, e1, e2⟩ := h
  refine (lose_calls b o P M 0 W h1 (by omega)).mono ?_
  rintro e w' ⟨rfl, hd⟩
  refine ⟨rfl, M.lose 0, Zt.next (M := M) hb h2 hd, ⟨hM.n1, hM.n16, hM.nw, hM.nd⟩, ?_, e2⟩
  show (M.fl.eraseIdx 0).length = K
  rw [List.length_eraseIdx_of_lt (by omega), e1]
  rfl
theorem t_now {w W : World} {b K : Nat} {now : Int} (h : TU w W b K now) : Calls Tryz.prog 18 #[.pointer (some ⟨b, 0, none⟩)] W fun e w' => e = .returned (.int .i64 now) ∧ Below W.heap.size W w' := by
  obtain ⟨M, ⟨o, P, h1, h2, hb⟩, hM, e1, e2⟩ := h
  rw [← e2]
  exact now_calls b o P M W h1
end Go.Proofs.YtfgponidkfgcpaaGreatDoor.MS
