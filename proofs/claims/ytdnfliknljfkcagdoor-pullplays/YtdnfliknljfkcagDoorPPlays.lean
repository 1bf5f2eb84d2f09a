/-
  The walk of the Go function PullPlays: it returns true. Its condition: package errors' variable errorType is as its text lays it.
-/
import Derived.Test.YtdnfliknljfkcagDoorPullS
import Derived.Test.YtdnfliknljfkcagDoorRPullC
import Derived.Test.YtdnfliknljfkcagDoorOpenS
import Derived.LoopTactic
import Derived.Deep.CutRange
import Derived.Deep.CutBlock
import Derived.Deep.RegionHeld3
namespace Go.Proofs.YtdnfliknljfkcagDoor.PPlays
open Go.ChangeShapes Go.WideShapes Go.ChangeAt Go.RowKit Go.Proofs.YtdnfliknljfkcagDoor.Mem Go.Proofs.YtdnfliknljfkcagDoor.PU Go.Proofs.YtdnfliknljfkcagDoor.Pull Go.Proofs.YtdnfliknljfkcagDoor.RPull
set_option linter.unusedVariables false

/-- four numbers in memory -/
def V4 (w : World) (vb : Nat) (v0 v1 v2 v3 : Int) : Prop := w.heap[vb]? = some (.cells #[.int .i64 v0, .int .i64 v1, .int .i64 v2, .int .i64 v3] 45 (0, 0))
theorem v4_cells {w : World} {vb : Nat} {v0 v1 v2 v3 : Int} (h : V4 w vb v0 v1 v2 v3) : w.cell? ⟨vb, 0, none⟩ = some (.int .i64 v0) ∧ w.cell? ⟨vb, 1, none⟩ = some (.int .i64 v1) ∧ w.cell? ⟨vb, 2, none⟩ = some (.int .i64 v2) ∧ w.cell? ⟨vb, 3, none⟩ = some (.int .i64 v3) := by
  unfold V4 at h
  refine ⟨?_, ?_, ?_, ?_⟩ <;> simp [World.cell?, h]
theorem v4_cell {w : World} {vb : Nat} {v0 v1 v2 v3 : Int} (h : V4 w vb v0 v1 v2 v3) (j : Nat) (hj : j < 4) : ∃ x, w.cell? ⟨vb, j, none⟩ = some (.int .i64 x) := by
  obtain ⟨c0, c1, c2, c3⟩ := v4_cells h
  match j, hj with
  | 0, _ => exact ⟨_, c0⟩
  | 1, _ => exact ⟨_, c1⟩
  | 2, _ => exact ⟨_, c2⟩
  | 3, _ => exact ⟨_, c3⟩
theorem v4_set {w : World} {vb : Nat} {v0 v1 v2 v3 : Int} (h : V4 w vb v0 v1 v2 v3) (j : Nat) (hj : j < 4) (x : Int) : ∃ u0 u1 u2 u3, V4 (w.setCell ⟨vb, j, none⟩ (.int .i64 x)) vb u0 u1 u2 u3 := by
  have hs := fun j => heap_setCell_same w vb j _ 45 (.int .i64 x) h
  match j, hj with
  | 0, _ => exact ⟨x, v1, v2, v3, hs 0⟩
  | 1, _ => exact ⟨v0, x, v2, v3, hs 1⟩
  | 2, _ => exact ⟨v0, v1, x, v3, hs 2⟩
  | 3, _ => exact ⟨v0, v1, v2, x, hs 3⟩
theorem v4_free {w : World} {vb : Nat} {v0 v1 v2 v3 : Int} (h : V4 w vb v0 v1 v2 v3) (j : Nat) : w.frozen? ⟨vb, j, none⟩ = false := by
  unfold V4 at h
  simp [World.frozen?, h]

/-- package pull's and the reference's -/
structure PSt (w W : World) (b : Nat) (mb : Nat → Nat) (rb : Nat) (th np : Int) (tp ap : Nat → Int) (Lp : Wts) (nr : Int) (tr ar : Nat → Int) (Lm : Wts) (lv : Value) : Prop where
  bel : Below w.heap.size w W
  b1 : ∀ k ∈ pblks b mb, w.heap.size ≤ k
  b2 : w.heap.size ≤ rb
  pull : PullAt W b mb th np tp ap Lp
  ref : RefAt W w.heap.size rb th nr tr ar Lm lv
theorem PSt.below {w W W' : World} {b rb : Nat} {mb : Nat → Nat} {th np nr : Int} {tp ap tr ar : Nat → Int} {Lp Lm : Wts} {lv : Value} (h : PSt w W b mb rb th np tp ap Lp nr tr ar Lm lv) (hb : Below W.heap.size W W') : PSt w W' b mb rb th np tp ap Lp nr tr ar Lm lv :=
  ⟨h.bel.trans (hb.mono h.bel.size), h.b1, h.b2, h.pull.below hb, h.ref.below hb⟩
theorem PSt.rbl {w W : World} {b rb : Nat} {mb : Nat → Nat} {th np nr : Int} {tp ap tr ar : Nat → Int} {Lp Lm : Wts} {lv : Value} (h : PSt w W b mb rb th np tp ap Lp nr tr ar Lm lv) : ∀ k ∈ rblks rb lv, w.heap.size ≤ k := by
  intro k hk
  rcases mem_rblks.1 hk with rfl | hk
  · exact h.b2
  · exact (h.ref.row.lt k hk).1
theorem PSt.cross {w W : World} {b rb : Nat} {mb : Nat → Nat} {th np nr : Int} {tp ap tr ar : Nat → Int} {Lp Lm : Wts} {lv : Value} (h : PSt w W b mb rb th np tp ap Lp nr tr ar Lm lv) : ∀ k ∈ rblks rb lv, k ∉ pblks b mb := by
  intro k hk
  rcases mem_rblks.1 hk with rfl | hk
  · intro hc
    obtain ⟨cs, h1, _⟩ := h.ref.box
    rcases mem_pblks.1 hc with rfl | ⟨i, hi, rfl⟩
    · obtain ⟨ds, h2, _⟩ := h.pull.box
      rw [h1] at h2
      simp at h2
    · obtain ⟨D, h2, _⟩ := h.pull.map i hi
      obtain ⟨es, c, h3⟩ := map_block h2
      rw [h1] at h3
      simp at h3
  · exact row_apart h.pull h.ref.row (by decide) k hk
theorem PSt.pulls {w W W' : World} {b rb : Nat} {mb : Nat → Nat} {th np np' nr : Int} {tp ap tp' ap' tr ar : Nat → Int} {Lp Lp' Lm : Wts} {lv : Value} (h : PSt w W b mb rb th np tp ap Lp nr tr ar Lm lv) (ho : Only (pblks b mb) W W') (hp : PullAt W' b mb th np' tp' ap' Lp') : PSt w W' b mb rb th np' tp' ap' Lp' nr tr ar Lm lv :=
  ⟨h.bel.trans (ho.below h.bel.size h.b1), h.b1, h.b2, hp, h.ref.only ho h.cross⟩
theorem PSt.refs {w W W' : World} {b rb : Nat} {mb : Nat → Nat} {th np nr nr' : Int} {tp ap tr ar tr' ar' : Nat → Int} {Lp Lm Lm' : Wts} {lv lv' : Value} (h : PSt w W b mb rb th np tp ap Lp nr tr ar Lm lv) (ho : Only (rblks rb lv) W W') (hr : RefAt W' w.heap.size rb th nr' tr' ar' Lm' lv') : PSt w W' b mb rb th np tp ap Lp nr' tr' ar' Lm' lv' :=
  ⟨h.bel.trans (ho.below h.bel.size h.rbl), h.b1, h.b2, h.pull.only ho (fun k hk hk2 => h.cross k hk2 hk), hr⟩
theorem PSt.mem {w W : World} {b rb : Nat} {mb : Nat → Nat} {th np nr : Int} {tp ap tr ar : Nat → Int} {Lp Lm K : Wts} {lv : Value} (h : PSt w W b mb rb th np tp ap Lp nr tr ar Lm lv) (e : ∀ y, y ∈ Lp ↔ y ∈ K) : PSt w W b mb rb th np tp ap K nr tr ar Lm lv :=
  { h with pull := h.pull.mem e }
/-- what is kept, such as it may be -/
structure Kept (th nw : Int) (td ak : Nat → Int) (L : Wts) (k : Nat) : Prop where
  inv : PU.Inv L
  ask : AInv th nw ak
  told : ∀ i, -1 ≤ td i ∧ td i ≤ 3
  len : L.length ≤ k
theorem kept_start {th : Int} (h1 : 1 ≤ th) (h2 : th ≤ 1000000) : Kept th 0 (fun _ => -1) (fun _ => -1) [] 0 := ⟨inv_nil, ainv_start h1 h2, fun _ => by constructor <;> omega, Nat.le_refl _⟩
theorem Kept.list {th nw : Int} {td ak : Nat → Int} {L K : Wts} {k : Nat} (h : Kept th nw td ak L k) (hI : PU.Inv K) (hl : K.length ≤ L.length + 1) : Kept th nw td ak K (k + 1) := ⟨hI, h.ask, h.told, by have := h.len; omega⟩
theorem Kept.chg {th nw : Int} {td ak : Nat → Int} {L : Wts} {k : Nat} (h : Kept th nw td ak L k) : Kept th nw (fun i => need L ((i : Int) + 1)) ak L (k + 1) := ⟨h.inv, h.ask, fun i => ⟨(need_spec L _).1, need_top h.inv _⟩, by have := h.len; omega⟩
theorem Kept.asks {th nw t now : Int} {td ak : Nat → Int} {L : Wts} {k : Nat} (h : Kept th nw td ak L k) : Kept th (aN L nw t now) td (aK L th nw ak t now) L (k + 1) := ⟨h.inv, ainv_ask h.ask, h.told, by have := h.len; omega⟩
theorem wanted_same {L K M : Wts} {a t c : Int} (h1 : Wanted L a t c K) (h2 : Wanted L a t c M) : ∀ y, y ∈ K ↔ y ∈ M := by
  intro y
  by_cases e : wf a t c = 0
  · rw [h1.1 e y, h2.1 e y]
  · rw [← h1.2 e y, ← h2.2 e y]
/-- what is wanted behind a call of Drop, as a list -/
def dropL (L : Wts) (a t : Int) : Wts := if df L a t = 0 then del L a t else L
theorem dropped_dropL (L : Wts) (a t : Int) : Dropped L a t (dropL L a t) := by
  unfold Dropped dropL
  refine ⟨fun h => ?_, fun h => ?_⟩
  · rw [if_pos h]; exact dels_del _ _ _
  · rw [if_neg h]; exact fun y => Iff.rfl
theorem dropped_same {L K M : Wts} {a t : Int} (h1 : Dropped L a t K) (h2 : Dropped L a t M) : ∀ y, y ∈ K ↔ y ∈ M := by
  intro y
  by_cases e : df L a t = 0
  · rw [h1.1 e y, h2.1 e y]
  · rw [← h1.2 e y, ← h2.2 e y]

set_option maxHeartbeats 1000000 in
set_option maxRecDepth 100000 in
theorem walk_err (th : Int) (vs : Value) (w : World) (hg : w.cell? ⟨0, 0, none⟩ = some (.iface 108 (.agg #[.pointer (some ⟨1, 25, none⟩)]))) (h : th < 1 ∨ 1000000 < th) :
    Calls Tryd.prog 4 #[.int .i64 th, vs] w fun e w' => e = .returned (.bool true) ∧ Below w.heap.size w w' := by
  have HN := hidden (fun w => new_err th w h)
  have HG := hidden hg
  rw [errv_pos (by decide)] at HN
  clear hg
  by_cases c0 : th < 1
  · clear h
    go_enter Tryd.func4, Tryd.ntmps4
    go_wp2_with fail
    refine (HN.out _).mono ?_
    rintro e w' ⟨rfl, rfl⟩
    go_wp2_with fail
    refine (Told.same_err 1 1 _ (by decide) (by decide) HG.out).mono ?_
    rintro e w1 ⟨rfl, hb⟩
    go_wp2_with fail
    go_ret
    exact ⟨rfl, hb⟩
  · have c1 : 1000000 < th := by omega
    clear h
    go_enter Tryd.func4, Tryd.ntmps4
    go_wp2_with fail
    refine (HN.out _).mono ?_
    rintro e w' ⟨rfl, rfl⟩
    go_wp2_with fail
    refine (Told.same_err 1 1 _ (by decide) (by decide) HG.out).mono ?_
    rintro e w1 ⟨rfl, hb⟩
    go_wp2_with fail
    go_ret
    exact ⟨rfl, hb⟩

set_option maxHeartbeats 16000000 in
set_option maxRecDepth 100000 in
theorem walk_ok (th : Int) (sa : Option Addr) (ls cs : Nat) (Z : Nat → Int) (w : World) (hg : w.cell? ⟨0, 0, none⟩ = some (.iface 108 (.agg #[.pointer (some ⟨1, 25, none⟩)]))) (h1 : 1 ≤ th) (h2 : th ≤ 1000000) (hR : Open.NRows w sa ls Z) :
    Calls Tryd.prog 4 #[.int .i64 th, .slice sa ls cs] w fun e w' => e = .returned (.bool true) ∧ Below w.heap.size w w' := by
  have hls := hR.1
  have HRs := hidden hR.2
  have HG := hidden hg
  have HN := hidden (fun w => new_ok th w h1 h2)
  have h0s : 0 < w.heap.size := World.block_lt_of_cell? w ⟨0, 0, none⟩ hg
  clear hR hg
  go_enter Tryd.func4, Tryd.ntmps4
  go_wp2_with fail
  refine (HN.out _).mono ?_
  rintro e w1 ⟨b, rfl, mb, hb1, hp, hbl⟩
  have HP1 := hidden hp
  have HB1 := hidden hbl
  have HK1 := hidden hb1
  clear hp hbl hb1 HN
  go_wp2_with fail
  refine (Told.same_nil 0 _).mono ?_
  rintro e w2 ⟨rfl, rfl⟩
  go_wp2_with fail
  have HS0 : Hid (PSt w (w2.alloc (.cells #[.int .i64 th, .int .i64 0, .slice none 0 0, .int .i64 0, .int .i64 0, .int .i64 0, .int .i64 0, .int .i64 0, .int .i64 0, .int .i64 0, .int .i64 0, .int .i64 0, .int .i64 0, .int .i64 0, .int .i64 0, .int .i64 0, .int .i64 0, .int .i64 0, .int .i64 0, .int .i64 0, .int .i64 0] 44)) b mb w2.heap.size th 0 (fun _ => -1) (fun _ => -1) [] 0 (fun _ => -1) (fun _ => -1) [] (.slice none 0 0)) := by
    refine ⟨HB1.out.alloc HB1.out.size _, HK1.out, HB1.out.size, HP1.out.below ((Below.refl _ _).alloc (Nat.le_refl _) _), ⟨⟨_, heap_alloc_new w2 _, ⟨rfl, rfl, rfl, rfl, ?_, ?_⟩⟩, World.ownsRow_nil _ _ _ _⟩⟩
    · intro i hi
      have : ∀ i : Fin 8, (#[.int .i64 th, .int .i64 0, .slice none 0 0, .int .i64 0, .int .i64 0, .int .i64 0, .int .i64 0, .int .i64 0, .int .i64 0, .int .i64 0, .int .i64 0, .int .i64 0, .int .i64 0, .int .i64 0, .int .i64 0, .int .i64 0, .int .i64 0, .int .i64 0, .int .i64 0, .int .i64 0, .int .i64 0] : Array Value)[3 + (i.val + 1)]? = some (.int .i64 (-1 + 1)) := by intro i; match i with | 0 => rfl | 1 => rfl | 2 => rfl | 3 => rfl | 4 => rfl | 5 => rfl | 6 => rfl | 7 => rfl
      exact this ⟨i, hi⟩
    · intro i hi
      have : ∀ i : Fin 8, (#[.int .i64 th, .int .i64 0, .slice none 0 0, .int .i64 0, .int .i64 0, .int .i64 0, .int .i64 0, .int .i64 0, .int .i64 0, .int .i64 0, .int .i64 0, .int .i64 0, .int .i64 0, .int .i64 0, .int .i64 0, .int .i64 0, .int .i64 0, .int .i64 0, .int .i64 0, .int .i64 0, .int .i64 0] : Array Value)[12 + (i.val + 1)]? = some (.int .i64 (-1 + 1)) := by intro i; match i with | 0 => rfl | 1 => rfl | 2 => rfl | 3 => rfl | 4 => rfl | 5 => rfl | 6 => rfl | 7 => rfl
      exact this ⟨i, hi⟩
  clear HP1 HB1 HK1
  obtain ⟨rb, hrb⟩ : ∃ rb, w2.heap.size = rb := ⟨_, rfl⟩
  rw [hrb] at HS0
  try rw [hrb]
  clear hrb
  go_loopg [10] 60 (fun g i' wr => ∃ (k : Nat) (nw : Int) (td ak : Nat → Int) (L : Wts) (lv : Value), k + g = 60 ∧ i' = .int .i64 (k : Int) ∧ Hid (Kept th nw td ak L k) ∧ Hid (PSt w wr b mb rb th nw td ak L nw td ak L lv))
  case atStart => exact ⟨0, 0, _, _, [], _, by omega, rfl, kept_start h1 h2, HS0⟩
  case round =>
    obtain ⟨k, nw, td, ak, L, lv, hkg, rfl, HK, HS⟩ := hrel
    clear HS0
    by_cases hend : k < ls
    case neg =>
      have d1 : decide ((k : Int) < (ls : Int)) = false := decide_eq_false (by omega)
      go_wp2_with fail
      go_ret
      exact ⟨rfl, HS.out.bel⟩
    have hkz : (k : Int) < (ls : Int) := by omega
    by_cases h60 : k < 60
    case neg =>
      have h60z : ¬ (k : Int) < 60 := by omega
      go_wp2_with fail
      go_ret
      exact ⟨rfl, HS.out.bel⟩
    have h60z : (k : Int) < 60 := by omega
    have hLl : L.length ≤ 60 := by have := HK.out.len; omega
    obtain ⟨sb, so, a', l', c', rfl, hsb, hsc, hl', hrow⟩ := HRs.out k hend
    have HSc := hidden hsc
    have HRow := hidden hrow
    clear hsc hrow
    obtain ⟨vb, hvb⟩ : ∃ vb, wr.heap.size = vb := ⟨_, rfl⟩
    have HV0 : Hid (V4 (wr.alloc (.cells #[.int .i64 0, .int .i64 0, .int .i64 0, .int .i64 0] 45)) vb 0 0 0 0) := by rw [← hvb]; exact heap_alloc_new wr _
    have HLt : Hid ((∀ q ∈ pblks b mb, q < vb) ∧ (∀ q ∈ rblks rb lv, q < vb) ∧ w.heap.size ≤ vb) := by rw [← hvb]; exact hidden ⟨HS.out.pull.blt, HS.out.ref.lt, HS.out.bel.size⟩
    have HB0 : Hid (Below vb wr (wr.alloc (.cells #[.int .i64 0, .int .i64 0, .int .i64 0, .int .i64 0] 45))) := by rw [← hvb]; exact hidden ((Below.refl _ _).alloc (Nat.le_refl _) _)
    have HPs : Hid (∀ W, Below vb wr W → PSt w W b mb rb th nw td ak L nw td ak L lv) := by rw [← hvb]; exact hidden (fun W hb => HS.out.below hb)
    have HVb := hidden hvb
    clear hvb HS
    go_wp2_with fail
    rw [HVb.out]
    go_loopg [12] 4 (fun g j' wq => ∃ (j : Nat) (v0 v1 v2 v3 : Int), j + g = 4 ∧ j' = .int .i64 (j : Int) ∧ Hid (V4 wq vb v0 v1 v2 v3 ∧ Below vb wr wq))
    case atStart => exact ⟨0, 0, 0, 0, 0, by omega, rfl, HV0.out, HB0.out⟩
    case round =>
      obtain ⟨wo, ewo⟩ : ∃ x, x = wr := ⟨_, rfl⟩
      obtain ⟨j, v0, v1, v2, v3, hjg, rfl, HJ⟩ := hrel
      clear HV0 HB0 ewo wo
      have HQ := hidden (HPs.out _ HJ.out.2)
      have cs1 := (HQ.out.bel.cell (p := ⟨sb, so + k, none⟩) hsb).trans HSc.out
      obtain ⟨jb, hjb⟩ : ∃ jb : Bool, decide (j < l' ∧ j < 4) = jb := ⟨_, rfl⟩
      have HJb := hidden hjb
      clear hjb
      go_upto_region 14 with fail
      go_cut [62] from 52 to 62 (fun c wx => c = .bool jb ∧ wx = wr)
      case first =>
        by_cases q1 : j < l'
        · have q1z : (j : Int) < (l' : Int) := by omega
          have e := hidden (by rw [← HJb.out]; simp [q1]; omega : decide ((j : Int) < 4) = jb)
          clear HJb
          go_wp2_with fail
          go_meet
          exact ⟨congrArg Value.bool e.out, rfl⟩
        · have q1z : ¬ (j : Int) < (l' : Int) := by omega
          have e := hidden (by rw [← HJb.out]; simp [q1] : false = jb)
          clear HJb
          go_wp2_with fail
          go_meet
          exact ⟨congrArg Value.bool e.out, rfl⟩
      case rest =>
        obtain ⟨rfl, rfl⟩ := hcut
        cases jb with
        | true =>
          obtain ⟨hj1, hj3⟩ : j < l' ∧ j < 4 := by simpa using HJb.out
          clear HJb
          have hjz : (j : Int) < (l' : Int) := by omega
          have hj3z : (j : Int) < 4 := by omega
          have hj0 : (0 : Int) ≤ (j : Int) := by omega
          obtain ⟨xb, xo, x, rfl, hxb, hxc⟩ := HRow.out j hj1
          have cx := (HQ.out.bel.cell (p := ⟨xb, xo + j, none⟩) hxb).trans hxc
          obtain ⟨y, cy⟩ := v4_cell HJ.out.1 j hj3
          have fy := v4_free HJ.out.1 j
          obtain ⟨u0, u1, u2, u3, hv4⟩ := v4_set HJ.out.1 j hj3 x
          have HN4 := hidden hv4
          have HBn := hidden (HJ.out.2.setCell (p := ⟨vb, j, none⟩) (Nat.le_refl _) (.int .i64 x))
          clear hxc hv4 HJ HQ
          go_wp2_with fail
          go_roundg (4 - (j + 1))
          case measure => omega
          case rel => exact ⟨j + 1, u0, u1, u2, u3, by omega, by go_num, HN4.out, HBn.out⟩
        | false =>
          clear HJb
          obtain ⟨c0, c1, c2, c3⟩ := v4_cells HJ.out.1
          have HV := hidden HJ.out.1
          clear HJ HPs HRow HSc cs1
          have HWc : Hid (vb ≤ wc.heap.size) := Nat.le_of_lt (lt_of_block HV.out)
          by_cases e0 : v0 = 0
          · subst e0
            have hVo : ∀ {W W1 : World}, V4 W vb 0 v1 v2 v3 → Only (pblks b mb) W W1 → V4 W1 vb 0 v1 v2 v3 := fun h ho => ho.block h (fun hc => by have := HLt.out.1 vb hc; omega)
            have hVr : ∀ {W W1 : World}, V4 W vb 0 v1 v2 v3 → Only (rblks rb lv) W W1 → V4 W1 vb 0 v1 v2 v3 := fun h ho => ho.block h (fun hc => by have := HLt.out.2.1 vb hc; omega)
            have hF100 : wf v1 v2 v3 ≤ 100 := by have := wf_le v1 v2 v3; omega
            obtain ⟨F, hF⟩ : ∃ F, wf v1 v2 v3 = F := ⟨_, rfl⟩
            obtain ⟨L1, hL1⟩ : ∃ y, wantL L v1 v2 v3 = y := ⟨_, rfl⟩
            have HL1 : Hid (Wanted L v1 v2 v3 L1) := by rw [← hL1]; exact wanted_wantL L v1 v2 v3
            have HG0 : Hid (∀ W, Hid (PSt w W b mb rb th nw td ak L nw td ak L lv ∧ V4 W vb 0 v1 v2 v3) → Calls Tryd.prog 6 #[.pointer (some ⟨b, 0, none⟩), .int .i64 v1, .int .i64 v2, .int .i64 v3] W fun e w' => e = .returned (errv F) ∧ (w'.cell? ⟨vb, 1, none⟩ = some (.int .i64 v1) ∧ w'.cell? ⟨vb, 2, none⟩ = some (.int .i64 v2) ∧ w'.cell? ⟨vb, 3, none⟩ = some (.int .i64 v3)) ∧ Hid (PSt w w' b mb rb th nw td ak L1 nw td ak L lv ∧ V4 w' vb 0 v1 v2 v3)) := by
              refine hidden (fun W hQ => (want_calls b mb th nw v1 v2 v3 _ _ L L1 W hQ.out.1.pull HK.out.inv (by omega) HL1.out).mono ?_)
              rintro e w' ⟨rfl, hp, ho⟩
              have hv := hVo hQ.out.2 ho
              exact ⟨by rw [hF], (v4_cells hv).2, hidden ⟨hQ.out.1.pulls ho hp, hv⟩⟩
            have HR1 : Hid (∀ W, Hid (PSt w W b mb rb th nw td ak L1 nw td ak L lv ∧ V4 W vb 0 v1 v2 v3) → Calls Tryd.prog 13 #[.pointer (some ⟨rb, 0, none⟩), .int .i64 v1, .int .i64 v2, .int .i64 v3] W fun e w' => e = .returned (.int .i64 (F : Int)) ∧ (w'.cell? ⟨vb, 1, none⟩ = some (.int .i64 v1) ∧ w'.cell? ⟨vb, 2, none⟩ = some (.int .i64 v2) ∧ w'.cell? ⟨vb, 3, none⟩ = some (.int .i64 v3)) ∧ Hid (∃ K lv', Wanted L v1 v2 v3 K ∧ PU.Inv K ∧ K.length ≤ L.length + 1 ∧ PSt w w' b mb rb th nw td ak L1 nw td ak K lv' ∧ V4 w' vb 0 v1 v2 v3)) := by
              refine hidden (fun W hQ => (rwant_calls w.heap.size rb th nw v1 v2 v3 _ _ L lv W hQ.out.1.ref HK.out.inv (by omega) hQ.out.1.bel.size).mono ?_)
              rintro e w' ⟨rfl, K, lv', q1, q2, q3, hr, ho⟩
              have hv := hVr hQ.out.2 ho
              exact ⟨by rw [hF], (v4_cells hv).2, hidden ⟨K, lv', q1, q2, q3, hQ.out.1.refs ho hr, hv⟩⟩
            have HE1 : Hid (∀ W, Hid (∃ K lv', Wanted L v1 v2 v3 K ∧ PU.Inv K ∧ K.length ≤ L.length + 1 ∧ PSt w W b mb rb th nw td ak L1 nw td ak K lv' ∧ V4 W vb 0 v1 v2 v3) → Calls Tryd.prog 12 #[errv F, .int .i64 (F : Int)] W fun e w' => e = .returned (.bool true) ∧ (w'.cell? ⟨vb, 1, none⟩ = some (.int .i64 v1) ∧ w'.cell? ⟨vb, 2, none⟩ = some (.int .i64 v2) ∧ w'.cell? ⟨vb, 3, none⟩ = some (.int .i64 v3)) ∧ Hid (∃ K lv', Wanted L v1 v2 v3 K ∧ PU.Inv K ∧ K.length ≤ L.length + 1 ∧ PSt w w' b mb rb th nw td ak L1 nw td ak K lv' ∧ V4 w' vb 0 v1 v2 v3)) := by
              refine hidden (fun W hQ => ?_)
              obtain ⟨K, lv', q1, q2, q3, hB, hV⟩ := hQ.out
              refine (told_f F W (by rw [← hF]; exact hF100) ((hB.bel.cell (p := ⟨0, 0, none⟩) h0s).trans HG.out)).mono ?_
              rintro e w' ⟨rfl, hb⟩
              have hv : V4 w' vb 0 v1 v2 v3 := (hb.block vb (lt_of_block hV)).trans hV
              exact ⟨rfl, (v4_cells hv).2, hidden ⟨K, lv', q1, q2, q3, hB.below hb, hv⟩⟩
            have hS0 : wc.drew.cell? ⟨vb, 1, none⟩ = some (.int .i64 v1) ∧ wc.drew.cell? ⟨vb, 2, none⟩ = some (.int .i64 v2) ∧ wc.drew.cell? ⟨vb, 3, none⟩ = some (.int .i64 v3) := ⟨c1, c2, c3⟩
            have HQ0 : Hid (PSt w wc.drew b mb rb th nw td ak L nw td ak L lv ∧ V4 wc.drew vb 0 v1 v2 v3) := hidden ⟨HQ.out.below ((Below.refl _ _).drew), HV.out⟩
            clear hVo hVr hF100 hF hL1 HQ c1 c2 c3
            go_wp2_with fail
            go_region_held3 (fun w' => w'.cell? ⟨vb, 1, none⟩ = some (.int .i64 v1) ∧ w'.cell? ⟨vb, 2, none⟩ = some (.int .i64 v2) ∧ w'.cell? ⟨vb, 3, none⟩ = some (.int .i64 v3)) (with_reducible assumption) (first | (go_at_call 6; refine (HG0.out _ (by with_reducible assumption)).mono ?_; rintro e w5 ⟨rfl, hS5, HQ5⟩) | (go_at_call 13; refine (HR1.out _ (by with_reducible assumption)).mono ?_; rintro e w8 ⟨rfl, hS8, HQ8⟩) | (go_at_call 12; refine (HE1.out _ (by with_reducible assumption)).mono ?_; rintro e w13 ⟨rfl, hS9, HQ9⟩))
            obtain ⟨K, lv2, q1, q2, q3, hB, hVz⟩ := HQ9.out
            have HT := hidden (hB.mem (wanted_same HL1.out q1))
            have HVz := hidden hVz
            have HKz := hidden (HK.out.list q2 q3)
            clear hB hVz q1 q2 q3 HQ5 HQ8 HQ9 hS5 hS8 hS9 HG0 HR1 HE1 hS0 HQ0 HL1 HV
            go_wp2_with fail
            obtain ⟨t, ht⟩ : ∃ t, v2 = t := ⟨_, rfl⟩
            have hn60 : K.length ≤ 61 := by have := HKz.out.len; omega
            obtain ⟨on, hon⟩ : ∃ on, (of K v2).length = on := ⟨_, rfl⟩
            have honl : on ≤ 61 := by have := of_len K v2; omega
            have HW0 : Hid (∀ W, Hid (PSt w W b mb rb th nw td ak K nw td ak K lv2 ∧ V4 W vb 0 v1 v2 v3) → Calls Tryd.prog 7 #[.pointer (some ⟨b, 0, none⟩), .int .i64 v2] W fun e w' => ∃ a c, e = .returned (.slice a on c) ∧ (w'.cell? ⟨vb, 2, none⟩ = some (.int .i64 v2)) ∧ Hid ((PSt w w' b mb rb th nw td ak K nw td ak K lv2 ∧ V4 w' vb 0 v1 v2 v3) ∧ IArg w' a on (whoS K v2))) := by
              refine hidden (fun W hQ => (who_calls b mb th nw v2 _ _ K W hQ.out.1.pull HKz.out.inv (by omega)).mono ?_)
              rintro e w' ⟨v, rfl, hrow, hb⟩
              rw [hon] at hrow
              obtain ⟨a, c, rfl, hA, -⟩ := own_ints hrow (by omega)
              have hv : V4 w' vb 0 v1 v2 v3 := (hb.block vb (lt_of_block hQ.out.2)).trans hQ.out.2
              exact ⟨a, c, rfl, (v4_cells hv).2.2.1, hidden ⟨⟨hQ.out.1.below hb, hv⟩, hA⟩⟩
            have HW1 : Hid (∀ W a, Hid ((PSt w W b mb rb th nw td ak K nw td ak K lv2 ∧ V4 W vb 0 v1 v2 v3) ∧ IArg W a on (whoS K v2)) → Calls Tryd.prog 19 #[.pointer (some ⟨rb, 0, none⟩), .int .i64 v2] W fun e w' => ∃ a2 c2, e = .returned (.slice a2 on c2) ∧ (w'.cell? ⟨vb, 2, none⟩ = some (.int .i64 v2)) ∧ Hid ((PSt w w' b mb rb th nw td ak K nw td ak K lv2 ∧ V4 w' vb 0 v1 v2 v3) ∧ IArg w' a on (whoS K v2) ∧ IArg w' a2 on (whoS K v2))) := by
              refine hidden (fun W a hQ => (rwho_calls w.heap.size rb th nw v2 _ _ K _ W hQ.out.1.1.ref HKz.out.inv (by omega)).mono ?_)
              rintro e w' ⟨v, rfl, hrow, hb⟩
              rw [hon] at hrow
              obtain ⟨a2, c2, rfl, hA, -⟩ := own_ints hrow (by omega)
              have hv : V4 w' vb 0 v1 v2 v3 := (hb.block vb (lt_of_block hQ.out.1.2)).trans hQ.out.1.2
              exact ⟨a2, c2, rfl, (v4_cells hv).2.2.1, hidden ⟨⟨hQ.out.1.1.below hb, hv⟩, hQ.out.2.below hb, hA⟩⟩
            have HW2 : Hid (∀ W a c a2 c2, Hid ((PSt w W b mb rb th nw td ak K nw td ak K lv2 ∧ V4 W vb 0 v1 v2 v3) ∧ IArg W a on (whoS K v2) ∧ IArg W a2 on (whoS K v2)) → Calls Tryd.prog 18 #[.slice a on c, .slice a2 on c2] W fun e w' => e = .returned (.bool true) ∧ (w'.cell? ⟨vb, 2, none⟩ = some (.int .i64 v2)) ∧ Hid (PSt w w' b mb rb th nw td ak K nw td ak K lv2 ∧ V4 w' vb 0 v1 v2 v3)) := by
              refine hidden (fun W a c a2 c2 hQ => (ints_same a a2 on c c2 (whoS K v2) W hQ.out.2.1 hQ.out.2.2).mono ?_)
              rintro e w' ⟨rfl, hb⟩
              have hv : V4 w' vb 0 v1 v2 v3 := (hb.block vb (lt_of_block hQ.out.1.2)).trans hQ.out.1.2
              exact ⟨rfl, (v4_cells hv).2.2.1, hidden ⟨hQ.out.1.1.below hb, hv⟩⟩
            obtain ⟨nd, hnd⟩ : ∃ nd, need K v2 = nd := ⟨_, rfl⟩
            have HD0 : Hid (∀ W, Hid (PSt w W b mb rb th nw td ak K nw td ak K lv2 ∧ V4 W vb 0 v1 v2 v3) → Calls Tryd.prog 11 #[.pointer (some ⟨b, 0, none⟩), .int .i64 v2] W fun e w' => e = .returned (.int .i64 nd) ∧ (w'.cell? ⟨vb, 2, none⟩ = some (.int .i64 v2)) ∧ Hid (PSt w w' b mb rb th nw td ak K nw td ak K lv2 ∧ V4 w' vb 0 v1 v2 v3)) := by
              refine hidden (fun W hQ => (Need_calls b mb th nw v2 _ _ K W hQ.out.1.pull HKz.out.inv).mono ?_)
              rintro e w' ⟨rfl, hb⟩
              have hv : V4 w' vb 0 v1 v2 v3 := (hb.block vb (lt_of_block hQ.out.2)).trans hQ.out.2
              exact ⟨by rw [hnd], (v4_cells hv).2.2.1, hidden ⟨hQ.out.1.below hb, hv⟩⟩
            have HD1 : Hid (∀ W, Hid (PSt w W b mb rb th nw td ak K nw td ak K lv2 ∧ V4 W vb 0 v1 v2 v3) → Calls Tryd.prog 20 #[.pointer (some ⟨rb, 0, none⟩), .int .i64 v2] W fun e w' => e = .returned (.int .i64 nd) ∧ (w'.cell? ⟨vb, 2, none⟩ = some (.int .i64 v2)) ∧ Hid (PSt w w' b mb rb th nw td ak K nw td ak K lv2 ∧ V4 w' vb 0 v1 v2 v3)) := by
              refine hidden (fun W hQ => (rneed_calls w.heap.size rb th nw v2 _ _ K _ W hQ.out.1.ref (by omega)).mono ?_)
              rintro e w' ⟨rfl, rfl⟩
              exact ⟨by rw [hnd], (v4_cells hQ.out.2).2.2.1, hQ⟩
            have hz0 : w13.drew.cell? ⟨vb, 2, none⟩ = some (.int .i64 v2) := (v4_cells HVz.out).2.2.1
            have HZ0 : Hid (PSt w w13.drew b mb rb th nw td ak K nw td ak K lv2 ∧ V4 w13.drew vb 0 v1 v2 v3) := hidden ⟨HT.out.below ((Below.refl _ _).drew), HVz.out⟩
            clear ht hon hnd HT HVz
            go_wp2_with fail
            go_region_held3 (fun w' => w'.cell? ⟨vb, 2, none⟩ = some (.int .i64 v2)) (with_reducible assumption) (first | (go_at_call 7; refine (HW0.out _ (by with_reducible assumption)).mono ?_; rintro e w25 ⟨a25, c25, rfl, hS25, HQ25⟩) | (go_at_call 19; refine (HW1.out _ _ (by with_reducible assumption)).mono ?_; rintro e w26 ⟨a26, c26, rfl, hS26, HQ26⟩) | (go_at_call 18; refine (HW2.out _ _ _ _ _ (by with_reducible assumption)).mono ?_; rintro e w27 ⟨rfl, hS27, HQ27⟩))
            have hz1 : w27.drew.cell? ⟨vb, 2, none⟩ = some (.int .i64 v2) := hS27
            have HZ1 : Hid (PSt w w27.drew b mb rb th nw td ak K nw td ak K lv2 ∧ V4 w27.drew vb 0 v1 v2 v3) := hidden ⟨HQ27.out.1.below ((Below.refl _ _).drew), HQ27.out.2⟩
            clear HQ25 HQ26 HQ27 hS25 hS26 hS27 HW0 HW1 HW2 HZ0 hz0
            go_wp2_with fail
            go_region_held3 (fun w' => w'.cell? ⟨vb, 2, none⟩ = some (.int .i64 v2)) (with_reducible assumption) (first | (go_at_call 11; refine (HD0.out _ (by with_reducible assumption)).mono ?_; rintro e w28 ⟨rfl, hS28, HQ28⟩) | (go_at_call 20; refine (HD1.out _ (by with_reducible assumption)).mono ?_; rintro e w29 ⟨rfl, hS29, HQ29⟩))
            have HP29 := hidden HQ29.out.1
            clear HQ28 HQ29 hS28 hS29 HD0 HD1 HZ1 hz1
            go_wp2_with fail
            go_roundg (60 - (k + 1))
            case measure => omega
            case rel => exact ⟨k + 1, nw, td, ak, K, lv2, by omega, by go_num, HKz, HP29⟩
          by_cases e1 : v0 = 1
          · subst e1
            have hVo : ∀ {W W1 : World}, V4 W vb 1 v1 v2 v3 → Only (pblks b mb) W W1 → V4 W1 vb 1 v1 v2 v3 := fun h ho => ho.block h (fun hc => by have := HLt.out.1 vb hc; omega)
            have hVr : ∀ {W W1 : World}, V4 W vb 1 v1 v2 v3 → Only (rblks rb lv) W W1 → V4 W1 vb 1 v1 v2 v3 := fun h ho => ho.block h (fun hc => by have := HLt.out.2.1 vb hc; omega)
            have hF100 : wf v1 v2 v3 ≤ 100 := by have := wf_le v1 v2 v3; omega
            obtain ⟨F, hF⟩ : ∃ F, wf v1 v2 v3 = F := ⟨_, rfl⟩
            obtain ⟨L1, hL1⟩ : ∃ y, wantL L v1 v2 v3 = y := ⟨_, rfl⟩
            have HL1 : Hid (Wanted L v1 v2 v3 L1) := by rw [← hL1]; exact wanted_wantL L v1 v2 v3
            have HG0 : Hid (∀ W, Hid (PSt w W b mb rb th nw td ak L nw td ak L lv ∧ V4 W vb 1 v1 v2 v3) → Calls Tryd.prog 6 #[.pointer (some ⟨b, 0, none⟩), .int .i64 v1, .int .i64 v2, .int .i64 v3] W fun e w' => e = .returned (errv F) ∧ (w'.cell? ⟨vb, 1, none⟩ = some (.int .i64 v1) ∧ w'.cell? ⟨vb, 2, none⟩ = some (.int .i64 v2) ∧ w'.cell? ⟨vb, 3, none⟩ = some (.int .i64 v3)) ∧ Hid (PSt w w' b mb rb th nw td ak L1 nw td ak L lv ∧ V4 w' vb 1 v1 v2 v3)) := by
              refine hidden (fun W hQ => (want_calls b mb th nw v1 v2 v3 _ _ L L1 W hQ.out.1.pull HK.out.inv (by omega) HL1.out).mono ?_)
              rintro e w' ⟨rfl, hp, ho⟩
              have hv := hVo hQ.out.2 ho
              exact ⟨by rw [hF], (v4_cells hv).2, hidden ⟨hQ.out.1.pulls ho hp, hv⟩⟩
            have HR1 : Hid (∀ W, Hid (PSt w W b mb rb th nw td ak L1 nw td ak L lv ∧ V4 W vb 1 v1 v2 v3) → Calls Tryd.prog 13 #[.pointer (some ⟨rb, 0, none⟩), .int .i64 v1, .int .i64 v2, .int .i64 v3] W fun e w' => e = .returned (.int .i64 (F : Int)) ∧ (w'.cell? ⟨vb, 1, none⟩ = some (.int .i64 v1) ∧ w'.cell? ⟨vb, 2, none⟩ = some (.int .i64 v2) ∧ w'.cell? ⟨vb, 3, none⟩ = some (.int .i64 v3)) ∧ Hid (∃ K lv', Wanted L v1 v2 v3 K ∧ PU.Inv K ∧ K.length ≤ L.length + 1 ∧ PSt w w' b mb rb th nw td ak L1 nw td ak K lv' ∧ V4 w' vb 1 v1 v2 v3)) := by
              refine hidden (fun W hQ => (rwant_calls w.heap.size rb th nw v1 v2 v3 _ _ L lv W hQ.out.1.ref HK.out.inv (by omega) hQ.out.1.bel.size).mono ?_)
              rintro e w' ⟨rfl, K, lv', q1, q2, q3, hr, ho⟩
              have hv := hVr hQ.out.2 ho
              exact ⟨by rw [hF], (v4_cells hv).2, hidden ⟨K, lv', q1, q2, q3, hQ.out.1.refs ho hr, hv⟩⟩
            have HE1 : Hid (∀ W, Hid (∃ K lv', Wanted L v1 v2 v3 K ∧ PU.Inv K ∧ K.length ≤ L.length + 1 ∧ PSt w W b mb rb th nw td ak L1 nw td ak K lv' ∧ V4 W vb 1 v1 v2 v3) → Calls Tryd.prog 12 #[errv F, .int .i64 (F : Int)] W fun e w' => e = .returned (.bool true) ∧ (w'.cell? ⟨vb, 1, none⟩ = some (.int .i64 v1) ∧ w'.cell? ⟨vb, 2, none⟩ = some (.int .i64 v2) ∧ w'.cell? ⟨vb, 3, none⟩ = some (.int .i64 v3)) ∧ Hid (∃ K lv', Wanted L v1 v2 v3 K ∧ PU.Inv K ∧ K.length ≤ L.length + 1 ∧ PSt w w' b mb rb th nw td ak L1 nw td ak K lv' ∧ V4 w' vb 1 v1 v2 v3)) := by
              refine hidden (fun W hQ => ?_)
              obtain ⟨K, lv', q1, q2, q3, hB, hV⟩ := hQ.out
              refine (told_f F W (by rw [← hF]; exact hF100) ((hB.bel.cell (p := ⟨0, 0, none⟩) h0s).trans HG.out)).mono ?_
              rintro e w' ⟨rfl, hb⟩
              have hv : V4 w' vb 1 v1 v2 v3 := (hb.block vb (lt_of_block hV)).trans hV
              exact ⟨rfl, (v4_cells hv).2, hidden ⟨K, lv', q1, q2, q3, hB.below hb, hv⟩⟩
            have hS0 : wc.drew.cell? ⟨vb, 1, none⟩ = some (.int .i64 v1) ∧ wc.drew.cell? ⟨vb, 2, none⟩ = some (.int .i64 v2) ∧ wc.drew.cell? ⟨vb, 3, none⟩ = some (.int .i64 v3) := ⟨c1, c2, c3⟩
            have HQ0 : Hid (PSt w wc.drew b mb rb th nw td ak L nw td ak L lv ∧ V4 wc.drew vb 1 v1 v2 v3) := hidden ⟨HQ.out.below ((Below.refl _ _).drew), HV.out⟩
            clear hVo hVr hF100 hF hL1 HQ c1 c2 c3
            go_wp2_with fail
            go_region_held3 (fun w' => w'.cell? ⟨vb, 1, none⟩ = some (.int .i64 v1) ∧ w'.cell? ⟨vb, 2, none⟩ = some (.int .i64 v2) ∧ w'.cell? ⟨vb, 3, none⟩ = some (.int .i64 v3)) (with_reducible assumption) (first | (go_at_call 6; refine (HG0.out _ (by with_reducible assumption)).mono ?_; rintro e w5 ⟨rfl, hS5, HQ5⟩) | (go_at_call 13; refine (HR1.out _ (by with_reducible assumption)).mono ?_; rintro e w8 ⟨rfl, hS8, HQ8⟩) | (go_at_call 12; refine (HE1.out _ (by with_reducible assumption)).mono ?_; rintro e w13 ⟨rfl, hS9, HQ9⟩))
            obtain ⟨K, lv2, q1, q2, q3, hB, hVz⟩ := HQ9.out
            have HT := hidden (hB.mem (wanted_same HL1.out q1))
            have HVz := hidden hVz
            have HKz := hidden (HK.out.list q2 q3)
            clear hB hVz q1 q2 q3 HQ5 HQ8 HQ9 hS5 hS8 hS9 HG0 HR1 HE1 hS0 HQ0 HL1 HV
            go_wp2_with fail
            obtain ⟨t, ht⟩ : ∃ t, v2 = t := ⟨_, rfl⟩
            have hn60 : K.length ≤ 61 := by have := HKz.out.len; omega
            obtain ⟨on, hon⟩ : ∃ on, (of K v2).length = on := ⟨_, rfl⟩
            have honl : on ≤ 61 := by have := of_len K v2; omega
            have HW0 : Hid (∀ W, Hid (PSt w W b mb rb th nw td ak K nw td ak K lv2 ∧ V4 W vb 1 v1 v2 v3) → Calls Tryd.prog 7 #[.pointer (some ⟨b, 0, none⟩), .int .i64 v2] W fun e w' => ∃ a c, e = .returned (.slice a on c) ∧ (w'.cell? ⟨vb, 2, none⟩ = some (.int .i64 v2)) ∧ Hid ((PSt w w' b mb rb th nw td ak K nw td ak K lv2 ∧ V4 w' vb 1 v1 v2 v3) ∧ IArg w' a on (whoS K v2))) := by
              refine hidden (fun W hQ => (who_calls b mb th nw v2 _ _ K W hQ.out.1.pull HKz.out.inv (by omega)).mono ?_)
              rintro e w' ⟨v, rfl, hrow, hb⟩
              rw [hon] at hrow
              obtain ⟨a, c, rfl, hA, -⟩ := own_ints hrow (by omega)
              have hv : V4 w' vb 1 v1 v2 v3 := (hb.block vb (lt_of_block hQ.out.2)).trans hQ.out.2
              exact ⟨a, c, rfl, (v4_cells hv).2.2.1, hidden ⟨⟨hQ.out.1.below hb, hv⟩, hA⟩⟩
            have HW1 : Hid (∀ W a, Hid ((PSt w W b mb rb th nw td ak K nw td ak K lv2 ∧ V4 W vb 1 v1 v2 v3) ∧ IArg W a on (whoS K v2)) → Calls Tryd.prog 19 #[.pointer (some ⟨rb, 0, none⟩), .int .i64 v2] W fun e w' => ∃ a2 c2, e = .returned (.slice a2 on c2) ∧ (w'.cell? ⟨vb, 2, none⟩ = some (.int .i64 v2)) ∧ Hid ((PSt w w' b mb rb th nw td ak K nw td ak K lv2 ∧ V4 w' vb 1 v1 v2 v3) ∧ IArg w' a on (whoS K v2) ∧ IArg w' a2 on (whoS K v2))) := by
              refine hidden (fun W a hQ => (rwho_calls w.heap.size rb th nw v2 _ _ K _ W hQ.out.1.1.ref HKz.out.inv (by omega)).mono ?_)
              rintro e w' ⟨v, rfl, hrow, hb⟩
              rw [hon] at hrow
              obtain ⟨a2, c2, rfl, hA, -⟩ := own_ints hrow (by omega)
              have hv : V4 w' vb 1 v1 v2 v3 := (hb.block vb (lt_of_block hQ.out.1.2)).trans hQ.out.1.2
              exact ⟨a2, c2, rfl, (v4_cells hv).2.2.1, hidden ⟨⟨hQ.out.1.1.below hb, hv⟩, hQ.out.2.below hb, hA⟩⟩
            have HW2 : Hid (∀ W a c a2 c2, Hid ((PSt w W b mb rb th nw td ak K nw td ak K lv2 ∧ V4 W vb 1 v1 v2 v3) ∧ IArg W a on (whoS K v2) ∧ IArg W a2 on (whoS K v2)) → Calls Tryd.prog 18 #[.slice a on c, .slice a2 on c2] W fun e w' => e = .returned (.bool true) ∧ (w'.cell? ⟨vb, 2, none⟩ = some (.int .i64 v2)) ∧ Hid (PSt w w' b mb rb th nw td ak K nw td ak K lv2 ∧ V4 w' vb 1 v1 v2 v3)) := by
              refine hidden (fun W a c a2 c2 hQ => (ints_same a a2 on c c2 (whoS K v2) W hQ.out.2.1 hQ.out.2.2).mono ?_)
              rintro e w' ⟨rfl, hb⟩
              have hv : V4 w' vb 1 v1 v2 v3 := (hb.block vb (lt_of_block hQ.out.1.2)).trans hQ.out.1.2
              exact ⟨rfl, (v4_cells hv).2.2.1, hidden ⟨hQ.out.1.1.below hb, hv⟩⟩
            obtain ⟨nd, hnd⟩ : ∃ nd, need K v2 = nd := ⟨_, rfl⟩
            have HD0 : Hid (∀ W, Hid (PSt w W b mb rb th nw td ak K nw td ak K lv2 ∧ V4 W vb 1 v1 v2 v3) → Calls Tryd.prog 11 #[.pointer (some ⟨b, 0, none⟩), .int .i64 v2] W fun e w' => e = .returned (.int .i64 nd) ∧ (w'.cell? ⟨vb, 2, none⟩ = some (.int .i64 v2)) ∧ Hid (PSt w w' b mb rb th nw td ak K nw td ak K lv2 ∧ V4 w' vb 1 v1 v2 v3)) := by
              refine hidden (fun W hQ => (Need_calls b mb th nw v2 _ _ K W hQ.out.1.pull HKz.out.inv).mono ?_)
              rintro e w' ⟨rfl, hb⟩
              have hv : V4 w' vb 1 v1 v2 v3 := (hb.block vb (lt_of_block hQ.out.2)).trans hQ.out.2
              exact ⟨by rw [hnd], (v4_cells hv).2.2.1, hidden ⟨hQ.out.1.below hb, hv⟩⟩
            have HD1 : Hid (∀ W, Hid (PSt w W b mb rb th nw td ak K nw td ak K lv2 ∧ V4 W vb 1 v1 v2 v3) → Calls Tryd.prog 20 #[.pointer (some ⟨rb, 0, none⟩), .int .i64 v2] W fun e w' => e = .returned (.int .i64 nd) ∧ (w'.cell? ⟨vb, 2, none⟩ = some (.int .i64 v2)) ∧ Hid (PSt w w' b mb rb th nw td ak K nw td ak K lv2 ∧ V4 w' vb 1 v1 v2 v3)) := by
              refine hidden (fun W hQ => (rneed_calls w.heap.size rb th nw v2 _ _ K _ W hQ.out.1.ref (by omega)).mono ?_)
              rintro e w' ⟨rfl, rfl⟩
              exact ⟨by rw [hnd], (v4_cells hQ.out.2).2.2.1, hQ⟩
            have hz0 : w13.drew.cell? ⟨vb, 2, none⟩ = some (.int .i64 v2) := (v4_cells HVz.out).2.2.1
            have HZ0 : Hid (PSt w w13.drew b mb rb th nw td ak K nw td ak K lv2 ∧ V4 w13.drew vb 1 v1 v2 v3) := hidden ⟨HT.out.below ((Below.refl _ _).drew), HVz.out⟩
            clear ht hon hnd HT HVz
            go_wp2_with fail
            go_region_held3 (fun w' => w'.cell? ⟨vb, 2, none⟩ = some (.int .i64 v2)) (with_reducible assumption) (first | (go_at_call 7; refine (HW0.out _ (by with_reducible assumption)).mono ?_; rintro e w25 ⟨a25, c25, rfl, hS25, HQ25⟩) | (go_at_call 19; refine (HW1.out _ _ (by with_reducible assumption)).mono ?_; rintro e w26 ⟨a26, c26, rfl, hS26, HQ26⟩) | (go_at_call 18; refine (HW2.out _ _ _ _ _ (by with_reducible assumption)).mono ?_; rintro e w27 ⟨rfl, hS27, HQ27⟩))
            have hz1 : w27.drew.cell? ⟨vb, 2, none⟩ = some (.int .i64 v2) := hS27
            have HZ1 : Hid (PSt w w27.drew b mb rb th nw td ak K nw td ak K lv2 ∧ V4 w27.drew vb 1 v1 v2 v3) := hidden ⟨HQ27.out.1.below ((Below.refl _ _).drew), HQ27.out.2⟩
            clear HQ25 HQ26 HQ27 hS25 hS26 hS27 HW0 HW1 HW2 HZ0 hz0
            go_wp2_with fail
            go_region_held3 (fun w' => w'.cell? ⟨vb, 2, none⟩ = some (.int .i64 v2)) (with_reducible assumption) (first | (go_at_call 11; refine (HD0.out _ (by with_reducible assumption)).mono ?_; rintro e w28 ⟨rfl, hS28, HQ28⟩) | (go_at_call 20; refine (HD1.out _ (by with_reducible assumption)).mono ?_; rintro e w29 ⟨rfl, hS29, HQ29⟩))
            have HP29 := hidden HQ29.out.1
            clear HQ28 HQ29 hS28 hS29 HD0 HD1 HZ1 hz1
            go_wp2_with fail
            go_roundg (60 - (k + 1))
            case measure => omega
            case rel => exact ⟨k + 1, nw, td, ak, K, lv2, by omega, by go_num, HKz, HP29⟩
          by_cases e2 : v0 = 2
          · subst e2
            have hVo : ∀ {W W1 : World}, V4 W vb 2 v1 v2 v3 → Only (pblks b mb) W W1 → V4 W1 vb 2 v1 v2 v3 := fun h ho => ho.block h (fun hc => by have := HLt.out.1 vb hc; omega)
            have hVr : ∀ {W W1 : World}, V4 W vb 2 v1 v2 v3 → Only (rblks rb lv) W W1 → V4 W1 vb 2 v1 v2 v3 := fun h ho => ho.block h (fun hc => by have := HLt.out.2.1 vb hc; omega)
            have hF100 : df L v1 v2 ≤ 100 := by have := df_le L v1 v2; omega
            obtain ⟨F, hF⟩ : ∃ F, df L v1 v2 = F := ⟨_, rfl⟩
            obtain ⟨L1, hL1⟩ : ∃ y, dropL L v1 v2 = y := ⟨_, rfl⟩
            have HL1 : Hid (Dropped L v1 v2 L1) := by rw [← hL1]; exact dropped_dropL L v1 v2
            have HG0 : Hid (∀ W, Hid (PSt w W b mb rb th nw td ak L nw td ak L lv ∧ V4 W vb 2 v1 v2 v3) → Calls Tryd.prog 9 #[.pointer (some ⟨b, 0, none⟩), .int .i64 v1, .int .i64 v2] W fun e w' => e = .returned (errv F) ∧ (w'.cell? ⟨vb, 1, none⟩ = some (.int .i64 v1) ∧ w'.cell? ⟨vb, 2, none⟩ = some (.int .i64 v2)) ∧ Hid (PSt w w' b mb rb th nw td ak L1 nw td ak L lv ∧ V4 w' vb 2 v1 v2 v3)) := by
              refine hidden (fun W hQ => (drop_calls b mb th nw v1 v2 _ _ L L1 W hQ.out.1.pull HK.out.inv HL1.out).mono ?_)
              rintro e w' ⟨rfl, hp, ho⟩
              have hv := hVo hQ.out.2 ho
              exact ⟨by rw [hF], ⟨(v4_cells hv).2.1, (v4_cells hv).2.2.1⟩, hidden ⟨hQ.out.1.pulls ho hp, hv⟩⟩
            have HR1 : Hid (∀ W, Hid (PSt w W b mb rb th nw td ak L1 nw td ak L lv ∧ V4 W vb 2 v1 v2 v3) → Calls Tryd.prog 14 #[.pointer (some ⟨rb, 0, none⟩), .int .i64 v1, .int .i64 v2] W fun e w' => e = .returned (.int .i64 (F : Int)) ∧ (w'.cell? ⟨vb, 1, none⟩ = some (.int .i64 v1) ∧ w'.cell? ⟨vb, 2, none⟩ = some (.int .i64 v2)) ∧ Hid (∃ K lv', Dropped L v1 v2 K ∧ PU.Inv K ∧ K.length ≤ L.length + 1 ∧ PSt w w' b mb rb th nw td ak L1 nw td ak K lv' ∧ V4 w' vb 2 v1 v2 v3)) := by
              refine hidden (fun W hQ => (rdrop_calls w.heap.size rb th nw v1 v2 _ _ L lv W hQ.out.1.ref HK.out.inv (by omega) hQ.out.1.bel.size).mono ?_)
              rintro e w' ⟨rfl, K, lv', q1, q2, q3, hr, ho⟩
              have hv := hVr hQ.out.2 ho
              exact ⟨by rw [hF], ⟨(v4_cells hv).2.1, (v4_cells hv).2.2.1⟩, hidden ⟨K, lv', q1, q2, q3, hQ.out.1.refs ho hr, hv⟩⟩
            have HE1 : Hid (∀ W, Hid (∃ K lv', Dropped L v1 v2 K ∧ PU.Inv K ∧ K.length ≤ L.length + 1 ∧ PSt w W b mb rb th nw td ak L1 nw td ak K lv' ∧ V4 W vb 2 v1 v2 v3) → Calls Tryd.prog 12 #[errv F, .int .i64 (F : Int)] W fun e w' => e = .returned (.bool true) ∧ (w'.cell? ⟨vb, 1, none⟩ = some (.int .i64 v1) ∧ w'.cell? ⟨vb, 2, none⟩ = some (.int .i64 v2)) ∧ Hid (∃ K lv', Dropped L v1 v2 K ∧ PU.Inv K ∧ K.length ≤ L.length + 1 ∧ PSt w w' b mb rb th nw td ak L1 nw td ak K lv' ∧ V4 w' vb 2 v1 v2 v3)) := by
              refine hidden (fun W hQ => ?_)
              obtain ⟨K, lv', q1, q2, q3, hB, hV⟩ := hQ.out
              refine (told_f F W (by rw [← hF]; exact hF100) ((hB.bel.cell (p := ⟨0, 0, none⟩) h0s).trans HG.out)).mono ?_
              rintro e w' ⟨rfl, hb⟩
              have hv : V4 w' vb 2 v1 v2 v3 := (hb.block vb (lt_of_block hV)).trans hV
              exact ⟨rfl, ⟨(v4_cells hv).2.1, (v4_cells hv).2.2.1⟩, hidden ⟨K, lv', q1, q2, q3, hB.below hb, hv⟩⟩
            have hS0 : wc.drew.cell? ⟨vb, 1, none⟩ = some (.int .i64 v1) ∧ wc.drew.cell? ⟨vb, 2, none⟩ = some (.int .i64 v2) := ⟨c1, c2⟩
            have HQ0 : Hid (PSt w wc.drew b mb rb th nw td ak L nw td ak L lv ∧ V4 wc.drew vb 2 v1 v2 v3) := hidden ⟨HQ.out.below ((Below.refl _ _).drew), HV.out⟩
            clear hVo hVr hF100 hF hL1 HQ c1 c2 c3
            go_wp2_with fail
            go_region_held3 (fun w' => w'.cell? ⟨vb, 1, none⟩ = some (.int .i64 v1) ∧ w'.cell? ⟨vb, 2, none⟩ = some (.int .i64 v2)) (with_reducible assumption) (first | (go_at_call 9; refine (HG0.out _ (by with_reducible assumption)).mono ?_; rintro e w5 ⟨rfl, hS5, HQ5⟩) | (go_at_call 14; refine (HR1.out _ (by with_reducible assumption)).mono ?_; rintro e w8 ⟨rfl, hS8, HQ8⟩) | (go_at_call 12; refine (HE1.out _ (by with_reducible assumption)).mono ?_; rintro e w13 ⟨rfl, hS9, HQ9⟩))
            obtain ⟨K, lv2, q1, q2, q3, hB, hVz⟩ := HQ9.out
            have HT := hidden (hB.mem (dropped_same HL1.out q1))
            have HVz := hidden hVz
            have HKz := hidden (HK.out.list q2 q3)
            clear hB hVz q1 q2 q3 HQ5 HQ8 HQ9 hS5 hS8 hS9 HG0 HR1 HE1 hS0 HQ0 HL1 HV
            go_wp2_with fail
            obtain ⟨t, ht⟩ : ∃ t, v2 = t := ⟨_, rfl⟩
            have hn60 : K.length ≤ 61 := by have := HKz.out.len; omega
            obtain ⟨on, hon⟩ : ∃ on, (of K v2).length = on := ⟨_, rfl⟩
            have honl : on ≤ 61 := by have := of_len K v2; omega
            have HW0 : Hid (∀ W, Hid (PSt w W b mb rb th nw td ak K nw td ak K lv2 ∧ V4 W vb 2 v1 v2 v3) → Calls Tryd.prog 7 #[.pointer (some ⟨b, 0, none⟩), .int .i64 v2] W fun e w' => ∃ a c, e = .returned (.slice a on c) ∧ (w'.cell? ⟨vb, 2, none⟩ = some (.int .i64 v2)) ∧ Hid ((PSt w w' b mb rb th nw td ak K nw td ak K lv2 ∧ V4 w' vb 2 v1 v2 v3) ∧ IArg w' a on (whoS K v2))) := by
              refine hidden (fun W hQ => (who_calls b mb th nw v2 _ _ K W hQ.out.1.pull HKz.out.inv (by omega)).mono ?_)
              rintro e w' ⟨v, rfl, hrow, hb⟩
              rw [hon] at hrow
              obtain ⟨a, c, rfl, hA, -⟩ := own_ints hrow (by omega)
              have hv : V4 w' vb 2 v1 v2 v3 := (hb.block vb (lt_of_block hQ.out.2)).trans hQ.out.2
              exact ⟨a, c, rfl, (v4_cells hv).2.2.1, hidden ⟨⟨hQ.out.1.below hb, hv⟩, hA⟩⟩
            have HW1 : Hid (∀ W a, Hid ((PSt w W b mb rb th nw td ak K nw td ak K lv2 ∧ V4 W vb 2 v1 v2 v3) ∧ IArg W a on (whoS K v2)) → Calls Tryd.prog 19 #[.pointer (some ⟨rb, 0, none⟩), .int .i64 v2] W fun e w' => ∃ a2 c2, e = .returned (.slice a2 on c2) ∧ (w'.cell? ⟨vb, 2, none⟩ = some (.int .i64 v2)) ∧ Hid ((PSt w w' b mb rb th nw td ak K nw td ak K lv2 ∧ V4 w' vb 2 v1 v2 v3) ∧ IArg w' a on (whoS K v2) ∧ IArg w' a2 on (whoS K v2))) := by
              refine hidden (fun W a hQ => (rwho_calls w.heap.size rb th nw v2 _ _ K _ W hQ.out.1.1.ref HKz.out.inv (by omega)).mono ?_)
              rintro e w' ⟨v, rfl, hrow, hb⟩
              rw [hon] at hrow
              obtain ⟨a2, c2, rfl, hA, -⟩ := own_ints hrow (by omega)
              have hv : V4 w' vb 2 v1 v2 v3 := (hb.block vb (lt_of_block hQ.out.1.2)).trans hQ.out.1.2
              exact ⟨a2, c2, rfl, (v4_cells hv).2.2.1, hidden ⟨⟨hQ.out.1.1.below hb, hv⟩, hQ.out.2.below hb, hA⟩⟩
            have HW2 : Hid (∀ W a c a2 c2, Hid ((PSt w W b mb rb th nw td ak K nw td ak K lv2 ∧ V4 W vb 2 v1 v2 v3) ∧ IArg W a on (whoS K v2) ∧ IArg W a2 on (whoS K v2)) → Calls Tryd.prog 18 #[.slice a on c, .slice a2 on c2] W fun e w' => e = .returned (.bool true) ∧ (w'.cell? ⟨vb, 2, none⟩ = some (.int .i64 v2)) ∧ Hid (PSt w w' b mb rb th nw td ak K nw td ak K lv2 ∧ V4 w' vb 2 v1 v2 v3)) := by
              refine hidden (fun W a c a2 c2 hQ => (ints_same a a2 on c c2 (whoS K v2) W hQ.out.2.1 hQ.out.2.2).mono ?_)
              rintro e w' ⟨rfl, hb⟩
              have hv : V4 w' vb 2 v1 v2 v3 := (hb.block vb (lt_of_block hQ.out.1.2)).trans hQ.out.1.2
              exact ⟨rfl, (v4_cells hv).2.2.1, hidden ⟨hQ.out.1.1.below hb, hv⟩⟩
            obtain ⟨nd, hnd⟩ : ∃ nd, need K v2 = nd := ⟨_, rfl⟩
            have HD0 : Hid (∀ W, Hid (PSt w W b mb rb th nw td ak K nw td ak K lv2 ∧ V4 W vb 2 v1 v2 v3) → Calls Tryd.prog 11 #[.pointer (some ⟨b, 0, none⟩), .int .i64 v2] W fun e w' => e = .returned (.int .i64 nd) ∧ (w'.cell? ⟨vb, 2, none⟩ = some (.int .i64 v2)) ∧ Hid (PSt w w' b mb rb th nw td ak K nw td ak K lv2 ∧ V4 w' vb 2 v1 v2 v3)) := by
              refine hidden (fun W hQ => (Need_calls b mb th nw v2 _ _ K W hQ.out.1.pull HKz.out.inv).mono ?_)
              rintro e w' ⟨rfl, hb⟩
              have hv : V4 w' vb 2 v1 v2 v3 := (hb.block vb (lt_of_block hQ.out.2)).trans hQ.out.2
              exact ⟨by rw [hnd], (v4_cells hv).2.2.1, hidden ⟨hQ.out.1.below hb, hv⟩⟩
            have HD1 : Hid (∀ W, Hid (PSt w W b mb rb th nw td ak K nw td ak K lv2 ∧ V4 W vb 2 v1 v2 v3) → Calls Tryd.prog 20 #[.pointer (some ⟨rb, 0, none⟩), .int .i64 v2] W fun e w' => e = .returned (.int .i64 nd) ∧ (w'.cell? ⟨vb, 2, none⟩ = some (.int .i64 v2)) ∧ Hid (PSt w w' b mb rb th nw td ak K nw td ak K lv2 ∧ V4 w' vb 2 v1 v2 v3)) := by
              refine hidden (fun W hQ => (rneed_calls w.heap.size rb th nw v2 _ _ K _ W hQ.out.1.ref (by omega)).mono ?_)
              rintro e w' ⟨rfl, rfl⟩
              exact ⟨by rw [hnd], (v4_cells hQ.out.2).2.2.1, hQ⟩
            have hz0 : w13.drew.cell? ⟨vb, 2, none⟩ = some (.int .i64 v2) := (v4_cells HVz.out).2.2.1
            have HZ0 : Hid (PSt w w13.drew b mb rb th nw td ak K nw td ak K lv2 ∧ V4 w13.drew vb 2 v1 v2 v3) := hidden ⟨HT.out.below ((Below.refl _ _).drew), HVz.out⟩
            clear ht hon hnd HT HVz
            go_wp2_with fail
            go_region_held3 (fun w' => w'.cell? ⟨vb, 2, none⟩ = some (.int .i64 v2)) (with_reducible assumption) (first | (go_at_call 7; refine (HW0.out _ (by with_reducible assumption)).mono ?_; rintro e w25 ⟨a25, c25, rfl, hS25, HQ25⟩) | (go_at_call 19; refine (HW1.out _ _ (by with_reducible assumption)).mono ?_; rintro e w26 ⟨a26, c26, rfl, hS26, HQ26⟩) | (go_at_call 18; refine (HW2.out _ _ _ _ _ (by with_reducible assumption)).mono ?_; rintro e w27 ⟨rfl, hS27, HQ27⟩))
            have hz1 : w27.drew.cell? ⟨vb, 2, none⟩ = some (.int .i64 v2) := hS27
            have HZ1 : Hid (PSt w w27.drew b mb rb th nw td ak K nw td ak K lv2 ∧ V4 w27.drew vb 2 v1 v2 v3) := hidden ⟨HQ27.out.1.below ((Below.refl _ _).drew), HQ27.out.2⟩
            clear HQ25 HQ26 HQ27 hS25 hS26 hS27 HW0 HW1 HW2 HZ0 hz0
            go_wp2_with fail
            go_region_held3 (fun w' => w'.cell? ⟨vb, 2, none⟩ = some (.int .i64 v2)) (with_reducible assumption) (first | (go_at_call 11; refine (HD0.out _ (by with_reducible assumption)).mono ?_; rintro e w28 ⟨rfl, hS28, HQ28⟩) | (go_at_call 20; refine (HD1.out _ (by with_reducible assumption)).mono ?_; rintro e w29 ⟨rfl, hS29, HQ29⟩))
            have HP29 := hidden HQ29.out.1
            clear HQ28 HQ29 hS28 hS29 HD0 HD1 HZ1 hz1
            go_wp2_with fail
            go_roundg (60 - (k + 1))
            case measure => omega
            case rel => exact ⟨k + 1, nw, td, ak, K, lv2, by omega, by go_num, HKz, HP29⟩
          by_cases e3 : v0 = 3
          · subst e3
            have CP := hidden (changed_calls b mb th nw _ _ L wc HQ.out.pull HK.out.inv)
            have hcl : (chg L td 8).length ≤ 8 := chg_len L td 8
            obtain ⟨X, hX⟩ : ∃ X, chg L td 8 = X := ⟨_, rfl⟩
            rw [hX] at CP hcl
            obtain ⟨td2, htd2⟩ : ∃ y : Nat → Int, (fun i : Nat => need L ((i : Int) + 1)) = y := ⟨_, rfl⟩
            have HKz : Hid (Kept th nw td2 ak L (k + 1)) := by rw [← htd2]; exact HK.out.chg
            have HRC : Hid (∀ W, PSt w W b mb rb th nw td2 ak L nw td ak L lv → Calls Tryd.prog 16 #[.pointer (some ⟨rb, 0, none⟩)] W fun e w' => ∃ v, e = .returned v ∧ RefAt w' w.heap.size rb th nw td2 ak L lv ∧ w'.ownsRow W.heap.size 30 3 v X.length (mc X) ∧ Only (rblks rb lv) W w') := by
              rw [← htd2, ← hX]
              exact hidden (fun W h => rchanged_calls w.heap.size rb th nw td ak L lv W h.ref HK.out.inv (by omega) HK.out.told)
            rw [htd2] at CP
            clear hX htd2
            go_wp2_with fail
            refine CP.out.mono ?_
            rintro e w11 ⟨pv, rfl, hp, hrow1, ho⟩
            have HT1 := hidden (HQ.out.pulls ho hp)
            have HV1 : Hid (V4 w11 vb 3 v1 v2 v3) := ho.block HV.out (fun hc => by have := HLt.out.1 vb hc; omega)
            have HR1 := hidden hrow1
            obtain ⟨pa, pc, rfl, -⟩ := own_wts hrow1 (by omega)
            clear hp ho hrow1 CP HQ HV c0 c1 c2 c3
            go_wp2_with fail
            refine (HRC.out _ HT1.out).mono ?_
            rintro e w12 ⟨rv, rfl, hr, hrow2, ho⟩
            have HT2 := hidden (HT1.out.refs ho hr)
            have HV2 : Hid (V4 w12 vb 3 v1 v2 v3) := ho.block HV1.out (fun hc => by have := HLt.out.2.1 vb hc; omega)
            obtain ⟨xa, xc, ex, hXA, -⟩ := own_wts (ho.owns HR1.out (fun j hj hc => by have h1 := (HR1.out.lt j hj).1; have h2 := HLt.out.2.1 j hc; have h3 := HWc.out; omega)) (by omega)
            obtain ⟨ya, yc, rfl, hYA, -⟩ := own_wts hrow2 (by omega)
            simp only [Value.slice.injEq] at ex
            rw [← ex.1] at hXA
            have HXA := hidden hXA
            have HYA := hidden hYA
            clear hr ho hrow2 hXA hYA ex HR1 HT1 HV1 HRC
            go_wp2_with fail
            refine (wts_same pa ya X.length pc yc X _ HXA.out HYA.out).mono ?_
            rintro e w13 ⟨rfl, hb13⟩
            have HT := hidden (HT2.out.below hb13)
            have HVz : Hid (V4 w13 vb 3 v1 v2 v3) := (hb13.block vb (lt_of_block HV2.out)).trans HV2.out
            clear hb13 HT2 HV2 HXA HYA
            go_wp2_with fail
            obtain ⟨t, ht⟩ : ∃ t, v2 = t := ⟨_, rfl⟩
            have hn60 : L.length ≤ 61 := by have := HKz.out.len; omega
            obtain ⟨on, hon⟩ : ∃ on, (of L v2).length = on := ⟨_, rfl⟩
            have honl : on ≤ 61 := by have := of_len L v2; omega
            have HW0 : Hid (∀ W, Hid (PSt w W b mb rb th nw td2 ak L nw td2 ak L lv ∧ V4 W vb 3 v1 v2 v3) → Calls Tryd.prog 7 #[.pointer (some ⟨b, 0, none⟩), .int .i64 v2] W fun e w' => ∃ a c, e = .returned (.slice a on c) ∧ (w'.cell? ⟨vb, 2, none⟩ = some (.int .i64 v2)) ∧ Hid ((PSt w w' b mb rb th nw td2 ak L nw td2 ak L lv ∧ V4 w' vb 3 v1 v2 v3) ∧ IArg w' a on (whoS L v2))) := by
              refine hidden (fun W hQ => (who_calls b mb th nw v2 _ _ L W hQ.out.1.pull HKz.out.inv (by omega)).mono ?_)
              rintro e w' ⟨v, rfl, hrow, hb⟩
              rw [hon] at hrow
              obtain ⟨a, c, rfl, hA, -⟩ := own_ints hrow (by omega)
              have hv : V4 w' vb 3 v1 v2 v3 := (hb.block vb (lt_of_block hQ.out.2)).trans hQ.out.2
              exact ⟨a, c, rfl, (v4_cells hv).2.2.1, hidden ⟨⟨hQ.out.1.below hb, hv⟩, hA⟩⟩
            have HW1 : Hid (∀ W a, Hid ((PSt w W b mb rb th nw td2 ak L nw td2 ak L lv ∧ V4 W vb 3 v1 v2 v3) ∧ IArg W a on (whoS L v2)) → Calls Tryd.prog 19 #[.pointer (some ⟨rb, 0, none⟩), .int .i64 v2] W fun e w' => ∃ a2 c2, e = .returned (.slice a2 on c2) ∧ (w'.cell? ⟨vb, 2, none⟩ = some (.int .i64 v2)) ∧ Hid ((PSt w w' b mb rb th nw td2 ak L nw td2 ak L lv ∧ V4 w' vb 3 v1 v2 v3) ∧ IArg w' a on (whoS L v2) ∧ IArg w' a2 on (whoS L v2))) := by
              refine hidden (fun W a hQ => (rwho_calls w.heap.size rb th nw v2 _ _ L _ W hQ.out.1.1.ref HKz.out.inv (by omega)).mono ?_)
              rintro e w' ⟨v, rfl, hrow, hb⟩
              rw [hon] at hrow
              obtain ⟨a2, c2, rfl, hA, -⟩ := own_ints hrow (by omega)
              have hv : V4 w' vb 3 v1 v2 v3 := (hb.block vb (lt_of_block hQ.out.1.2)).trans hQ.out.1.2
              exact ⟨a2, c2, rfl, (v4_cells hv).2.2.1, hidden ⟨⟨hQ.out.1.1.below hb, hv⟩, hQ.out.2.below hb, hA⟩⟩
            have HW2 : Hid (∀ W a c a2 c2, Hid ((PSt w W b mb rb th nw td2 ak L nw td2 ak L lv ∧ V4 W vb 3 v1 v2 v3) ∧ IArg W a on (whoS L v2) ∧ IArg W a2 on (whoS L v2)) → Calls Tryd.prog 18 #[.slice a on c, .slice a2 on c2] W fun e w' => e = .returned (.bool true) ∧ (w'.cell? ⟨vb, 2, none⟩ = some (.int .i64 v2)) ∧ Hid (PSt w w' b mb rb th nw td2 ak L nw td2 ak L lv ∧ V4 w' vb 3 v1 v2 v3)) := by
              refine hidden (fun W a c a2 c2 hQ => (ints_same a a2 on c c2 (whoS L v2) W hQ.out.2.1 hQ.out.2.2).mono ?_)
              rintro e w' ⟨rfl, hb⟩
              have hv : V4 w' vb 3 v1 v2 v3 := (hb.block vb (lt_of_block hQ.out.1.2)).trans hQ.out.1.2
              exact ⟨rfl, (v4_cells hv).2.2.1, hidden ⟨hQ.out.1.1.below hb, hv⟩⟩
            obtain ⟨nd, hnd⟩ : ∃ nd, need L v2 = nd := ⟨_, rfl⟩
            have HD0 : Hid (∀ W, Hid (PSt w W b mb rb th nw td2 ak L nw td2 ak L lv ∧ V4 W vb 3 v1 v2 v3) → Calls Tryd.prog 11 #[.pointer (some ⟨b, 0, none⟩), .int .i64 v2] W fun e w' => e = .returned (.int .i64 nd) ∧ (w'.cell? ⟨vb, 2, none⟩ = some (.int .i64 v2)) ∧ Hid (PSt w w' b mb rb th nw td2 ak L nw td2 ak L lv ∧ V4 w' vb 3 v1 v2 v3)) := by
              refine hidden (fun W hQ => (Need_calls b mb th nw v2 _ _ L W hQ.out.1.pull HKz.out.inv).mono ?_)
              rintro e w' ⟨rfl, hb⟩
              have hv : V4 w' vb 3 v1 v2 v3 := (hb.block vb (lt_of_block hQ.out.2)).trans hQ.out.2
              exact ⟨by rw [hnd], (v4_cells hv).2.2.1, hidden ⟨hQ.out.1.below hb, hv⟩⟩
            have HD1 : Hid (∀ W, Hid (PSt w W b mb rb th nw td2 ak L nw td2 ak L lv ∧ V4 W vb 3 v1 v2 v3) → Calls Tryd.prog 20 #[.pointer (some ⟨rb, 0, none⟩), .int .i64 v2] W fun e w' => e = .returned (.int .i64 nd) ∧ (w'.cell? ⟨vb, 2, none⟩ = some (.int .i64 v2)) ∧ Hid (PSt w w' b mb rb th nw td2 ak L nw td2 ak L lv ∧ V4 w' vb 3 v1 v2 v3)) := by
              refine hidden (fun W hQ => (rneed_calls w.heap.size rb th nw v2 _ _ L _ W hQ.out.1.ref (by omega)).mono ?_)
              rintro e w' ⟨rfl, rfl⟩
              exact ⟨by rw [hnd], (v4_cells hQ.out.2).2.2.1, hQ⟩
            have hz0 : w13.drew.cell? ⟨vb, 2, none⟩ = some (.int .i64 v2) := (v4_cells HVz.out).2.2.1
            have HZ0 : Hid (PSt w w13.drew b mb rb th nw td2 ak L nw td2 ak L lv ∧ V4 w13.drew vb 3 v1 v2 v3) := hidden ⟨HT.out.below ((Below.refl _ _).drew), HVz.out⟩
            clear ht hon hnd HT HVz
            go_wp2_with fail
            go_region_held3 (fun w' => w'.cell? ⟨vb, 2, none⟩ = some (.int .i64 v2)) (with_reducible assumption) (first | (go_at_call 7; refine (HW0.out _ (by with_reducible assumption)).mono ?_; rintro e w25 ⟨a25, c25, rfl, hS25, HQ25⟩) | (go_at_call 19; refine (HW1.out _ _ (by with_reducible assumption)).mono ?_; rintro e w26 ⟨a26, c26, rfl, hS26, HQ26⟩) | (go_at_call 18; refine (HW2.out _ _ _ _ _ (by with_reducible assumption)).mono ?_; rintro e w27 ⟨rfl, hS27, HQ27⟩))
            have hz1 : w27.drew.cell? ⟨vb, 2, none⟩ = some (.int .i64 v2) := hS27
            have HZ1 : Hid (PSt w w27.drew b mb rb th nw td2 ak L nw td2 ak L lv ∧ V4 w27.drew vb 3 v1 v2 v3) := hidden ⟨HQ27.out.1.below ((Below.refl _ _).drew), HQ27.out.2⟩
            clear HQ25 HQ26 HQ27 hS25 hS26 hS27 HW0 HW1 HW2 HZ0 hz0
            go_wp2_with fail
            go_region_held3 (fun w' => w'.cell? ⟨vb, 2, none⟩ = some (.int .i64 v2)) (with_reducible assumption) (first | (go_at_call 11; refine (HD0.out _ (by with_reducible assumption)).mono ?_; rintro e w28 ⟨rfl, hS28, HQ28⟩) | (go_at_call 20; refine (HD1.out _ (by with_reducible assumption)).mono ?_; rintro e w29 ⟨rfl, hS29, HQ29⟩))
            have HP29 := hidden HQ29.out.1
            clear HQ28 HQ29 hS28 hS29 HD0 HD1 HZ1 hz1
            go_wp2_with fail
            go_roundg (60 - (k + 1))
            case measure => omega
            case rel => exact ⟨k + 1, nw, td2, ak, L, lv, by omega, by go_num, HKz, HP29⟩
          have n0 : (v0 == 0) = false := by simpa using e0
          have n1 : (v0 == 1) = false := by simpa using e1
          have n2 : (v0 == 2) = false := by simpa using e2
          have n3 : (v0 == 3) = false := by simpa using e3
          clear e0 e1 e2 e3
          have C1 := rask_calls w.heap.size rb th nw v2 v3 td ak L lv wc HQ.out.ref HK.out.ask (by omega)
          have hC2 := fun W h => ask_calls b mb th nw v2 v3 td ak L W h HK.out.inv HK.out.ask (by omega)
          have hKz := HK.out.asks (t := v2) (now := v3)
          have hF6 : af L nw v2 v3 ≤ 6 := af_le
          obtain ⟨X, hX⟩ : ∃ X, aB L th nw ak v2 v3 = X := ⟨_, rfl⟩
          obtain ⟨F, hF⟩ : ∃ F, af L nw v2 v3 = F := ⟨_, rfl⟩
          obtain ⟨nw2, hnw2⟩ : ∃ y, aN L nw v2 v3 = y := ⟨_, rfl⟩
          obtain ⟨ak2, hak2⟩ : ∃ y, aK L th nw ak v2 v3 = y := ⟨_, rfl⟩
          rw [hX, hF, hnw2, hak2] at C1
          simp only [hX, hF, hnw2, hak2] at hC2
          rw [hF] at hF6
          rw [hnw2, hak2] at hKz
          have HC1 := hidden C1
          have HC2 := hidden hC2
          have HKz := hidden hKz
          clear C1 hC2 hKz hX hF hnw2 hak2
          go_wp2_with fail
          refine HC1.out.mono ?_
          rintro e w11 ⟨rfl, hr, ho⟩
          have HT1 := hidden (HQ.out.refs ho hr)
          have HV1 : Hid (V4 w11 vb v0 v1 v2 v3) := ho.block HV.out (fun hc => by have := HLt.out.2.1 vb hc; omega)
          obtain ⟨d0, d1, d2, d3⟩ := v4_cells HV1.out
          clear hr ho HC1 HQ HV c0 c1 c2 c3
          go_wp2_with fail
          refine (HC2.out _ (by exact HT1.out.pull)).mono ?_
          rintro e w12 ⟨rfl, hp, ho⟩
          have HT2 := hidden (HT1.out.pulls ho hp)
          have HV2 : Hid (V4 w12 vb v0 v1 v2 v3) := ho.block HV1.out (fun hc => by have := HLt.out.1 vb hc; omega)
          clear hp ho HC2 HT1 HV1 d0 d1 d2 d3
          go_wp2_with fail
          refine (told_f F _ (by omega) ((HT2.out.bel.cell (p := ⟨0, 0, none⟩) h0s).trans HG.out)).mono ?_
          rintro e w13 ⟨rfl, hb13⟩
          have HT := hidden (HT2.out.below hb13)
          have HVz : Hid (V4 w13 vb v0 v1 v2 v3) := (hb13.block vb (lt_of_block HV2.out)).trans HV2.out
          clear hb13 HT2 HV2
          go_wp2_with fail
          obtain ⟨t, ht⟩ : ∃ t, v2 = t := ⟨_, rfl⟩
          have hn60 : L.length ≤ 61 := by have := HKz.out.len; omega
          obtain ⟨on, hon⟩ : ∃ on, (of L v2).length = on := ⟨_, rfl⟩
          have honl : on ≤ 61 := by have := of_len L v2; omega
          have HW0 : Hid (∀ W, Hid (PSt w W b mb rb th nw2 td ak2 L nw2 td ak2 L lv ∧ V4 W vb v0 v1 v2 v3) → Calls Tryd.prog 7 #[.pointer (some ⟨b, 0, none⟩), .int .i64 v2] W fun e w' => ∃ a c, e = .returned (.slice a on c) ∧ (w'.cell? ⟨vb, 2, none⟩ = some (.int .i64 v2)) ∧ Hid ((PSt w w' b mb rb th nw2 td ak2 L nw2 td ak2 L lv ∧ V4 w' vb v0 v1 v2 v3) ∧ IArg w' a on (whoS L v2))) := by
            refine hidden (fun W hQ => (who_calls b mb th nw2 v2 _ _ L W hQ.out.1.pull HKz.out.inv (by omega)).mono ?_)
            rintro e w' ⟨v, rfl, hrow, hb⟩
            rw [hon] at hrow
            obtain ⟨a, c, rfl, hA, -⟩ := own_ints hrow (by omega)
            have hv : V4 w' vb v0 v1 v2 v3 := (hb.block vb (lt_of_block hQ.out.2)).trans hQ.out.2
            exact ⟨a, c, rfl, (v4_cells hv).2.2.1, hidden ⟨⟨hQ.out.1.below hb, hv⟩, hA⟩⟩
          have HW1 : Hid (∀ W a, Hid ((PSt w W b mb rb th nw2 td ak2 L nw2 td ak2 L lv ∧ V4 W vb v0 v1 v2 v3) ∧ IArg W a on (whoS L v2)) → Calls Tryd.prog 19 #[.pointer (some ⟨rb, 0, none⟩), .int .i64 v2] W fun e w' => ∃ a2 c2, e = .returned (.slice a2 on c2) ∧ (w'.cell? ⟨vb, 2, none⟩ = some (.int .i64 v2)) ∧ Hid ((PSt w w' b mb rb th nw2 td ak2 L nw2 td ak2 L lv ∧ V4 w' vb v0 v1 v2 v3) ∧ IArg w' a on (whoS L v2) ∧ IArg w' a2 on (whoS L v2))) := by
            refine hidden (fun W a hQ => (rwho_calls w.heap.size rb th nw2 v2 _ _ L _ W hQ.out.1.1.ref HKz.out.inv (by omega)).mono ?_)
            rintro e w' ⟨v, rfl, hrow, hb⟩
            rw [hon] at hrow
            obtain ⟨a2, c2, rfl, hA, -⟩ := own_ints hrow (by omega)
            have hv : V4 w' vb v0 v1 v2 v3 := (hb.block vb (lt_of_block hQ.out.1.2)).trans hQ.out.1.2
            exact ⟨a2, c2, rfl, (v4_cells hv).2.2.1, hidden ⟨⟨hQ.out.1.1.below hb, hv⟩, hQ.out.2.below hb, hA⟩⟩
          have HW2 : Hid (∀ W a c a2 c2, Hid ((PSt w W b mb rb th nw2 td ak2 L nw2 td ak2 L lv ∧ V4 W vb v0 v1 v2 v3) ∧ IArg W a on (whoS L v2) ∧ IArg W a2 on (whoS L v2)) → Calls Tryd.prog 18 #[.slice a on c, .slice a2 on c2] W fun e w' => e = .returned (.bool true) ∧ (w'.cell? ⟨vb, 2, none⟩ = some (.int .i64 v2)) ∧ Hid (PSt w w' b mb rb th nw2 td ak2 L nw2 td ak2 L lv ∧ V4 w' vb v0 v1 v2 v3)) := by
            refine hidden (fun W a c a2 c2 hQ => (ints_same a a2 on c c2 (whoS L v2) W hQ.out.2.1 hQ.out.2.2).mono ?_)
            rintro e w' ⟨rfl, hb⟩
            have hv : V4 w' vb v0 v1 v2 v3 := (hb.block vb (lt_of_block hQ.out.1.2)).trans hQ.out.1.2
            exact ⟨rfl, (v4_cells hv).2.2.1, hidden ⟨hQ.out.1.1.below hb, hv⟩⟩
          obtain ⟨nd, hnd⟩ : ∃ nd, need L v2 = nd := ⟨_, rfl⟩
          have HD0 : Hid (∀ W, Hid (PSt w W b mb rb th nw2 td ak2 L nw2 td ak2 L lv ∧ V4 W vb v0 v1 v2 v3) → Calls Tryd.prog 11 #[.pointer (some ⟨b, 0, none⟩), .int .i64 v2] W fun e w' => e = .returned (.int .i64 nd) ∧ (w'.cell? ⟨vb, 2, none⟩ = some (.int .i64 v2)) ∧ Hid (PSt w w' b mb rb th nw2 td ak2 L nw2 td ak2 L lv ∧ V4 w' vb v0 v1 v2 v3)) := by
            refine hidden (fun W hQ => (Need_calls b mb th nw2 v2 _ _ L W hQ.out.1.pull HKz.out.inv).mono ?_)
            rintro e w' ⟨rfl, hb⟩
            have hv : V4 w' vb v0 v1 v2 v3 := (hb.block vb (lt_of_block hQ.out.2)).trans hQ.out.2
            exact ⟨by rw [hnd], (v4_cells hv).2.2.1, hidden ⟨hQ.out.1.below hb, hv⟩⟩
          have HD1 : Hid (∀ W, Hid (PSt w W b mb rb th nw2 td ak2 L nw2 td ak2 L lv ∧ V4 W vb v0 v1 v2 v3) → Calls Tryd.prog 20 #[.pointer (some ⟨rb, 0, none⟩), .int .i64 v2] W fun e w' => e = .returned (.int .i64 nd) ∧ (w'.cell? ⟨vb, 2, none⟩ = some (.int .i64 v2)) ∧ Hid (PSt w w' b mb rb th nw2 td ak2 L nw2 td ak2 L lv ∧ V4 w' vb v0 v1 v2 v3)) := by
            refine hidden (fun W hQ => (rneed_calls w.heap.size rb th nw2 v2 _ _ L _ W hQ.out.1.ref (by omega)).mono ?_)
            rintro e w' ⟨rfl, rfl⟩
            exact ⟨by rw [hnd], (v4_cells hQ.out.2).2.2.1, hQ⟩
          have hz0 : w13.drew.cell? ⟨vb, 2, none⟩ = some (.int .i64 v2) := (v4_cells HVz.out).2.2.1
          have HZ0 : Hid (PSt w w13.drew b mb rb th nw2 td ak2 L nw2 td ak2 L lv ∧ V4 w13.drew vb v0 v1 v2 v3) := hidden ⟨HT.out.below ((Below.refl _ _).drew), HVz.out⟩
          clear ht hon hnd HT HVz
          go_wp2_with fail
          go_region_held3 (fun w' => w'.cell? ⟨vb, 2, none⟩ = some (.int .i64 v2)) (with_reducible assumption) (first | (go_at_call 7; refine (HW0.out _ (by with_reducible assumption)).mono ?_; rintro e w25 ⟨a25, c25, rfl, hS25, HQ25⟩) | (go_at_call 19; refine (HW1.out _ _ (by with_reducible assumption)).mono ?_; rintro e w26 ⟨a26, c26, rfl, hS26, HQ26⟩) | (go_at_call 18; refine (HW2.out _ _ _ _ _ (by with_reducible assumption)).mono ?_; rintro e w27 ⟨rfl, hS27, HQ27⟩))
          have hz1 : w27.drew.cell? ⟨vb, 2, none⟩ = some (.int .i64 v2) := hS27
          have HZ1 : Hid (PSt w w27.drew b mb rb th nw2 td ak2 L nw2 td ak2 L lv ∧ V4 w27.drew vb v0 v1 v2 v3) := hidden ⟨HQ27.out.1.below ((Below.refl _ _).drew), HQ27.out.2⟩
          clear HQ25 HQ26 HQ27 hS25 hS26 hS27 HW0 HW1 HW2 HZ0 hz0
          go_wp2_with fail
          go_region_held3 (fun w' => w'.cell? ⟨vb, 2, none⟩ = some (.int .i64 v2)) (with_reducible assumption) (first | (go_at_call 11; refine (HD0.out _ (by with_reducible assumption)).mono ?_; rintro e w28 ⟨rfl, hS28, HQ28⟩) | (go_at_call 20; refine (HD1.out _ (by with_reducible assumption)).mono ?_; rintro e w29 ⟨rfl, hS29, HQ29⟩))
          have HP29 := hidden HQ29.out.1
          clear HQ28 HQ29 hS28 hS29 HD0 HD1 HZ1 hz1
          go_wp2_with fail
          go_roundg (60 - (k + 1))
          case measure => omega
          case rel => exact ⟨k + 1, nw2, td, ak2, L, lv, by omega, by go_num, HKz, HP29⟩
theorem walk (th : Int) (sa : Option Addr) (ls cs : Nat) (Z : Nat → Int) (w : World) (hg : w.cell? ⟨0, 0, none⟩ = some (.iface 108 (.agg #[.pointer (some ⟨1, 25, none⟩)]))) (hR : Open.NRows w sa ls Z) :
    Calls Tryd.prog 4 #[.int .i64 th, .slice sa ls cs] w fun e w' => e = .returned (.bool true) ∧ Below w.heap.size w w' := by
  by_cases h : th < 1 ∨ 1000000 < th
  · exact walk_err th _ w hg h
  · exact walk_ok th sa ls cs Z w hg (by omega) (by omega) hR
end Go.Proofs.YtdnfliknljfkcagDoor.PPlays
