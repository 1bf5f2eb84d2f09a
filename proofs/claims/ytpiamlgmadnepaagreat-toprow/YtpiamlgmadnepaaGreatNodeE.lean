/-
  What allSubs of package node returns: the subscribers by number. Its condition: the node is such as it may be.
-/
import Derived.Test.YtpiamlgmadnepaaGreatNodeD
import Derived.Deep.CutRange
namespace Go.Proofs.YtpiamlgmadnepaaGreat.ND
open Go.ChangeShapes Go.WideShapes Go.ChangeAt Go.RowKit Go.Maps Go.Sort Go.Shelf Go.Proofs.YtpiamlgmadnepaaGreat.Mem Go.Proofs.YtpiamlgmadnepaaGreat.NO
set_option linter.unusedVariables false

theorem law3 : Keyed Tryz.prog 3 := int_keyed Tryz.underlying3
theorem keyOf3 {y : Int} (h : (Lit.int .i64 y).wf = true) : keyOf Tryz.prog 3 (.int .i64 y) = some (GM.key y) := keyOf_int_mk Tryz.underlying3 h
theorem zeroSQ (w : World) : (zeroValue 160).run Tryz.prog w = .ok (.pointer none) w := by kernel_rfl
theorem infoSQ : (Tryz.prog.info? 160).map (fun i => (i.zero, i.size, i.bytes)) = some (some (.pointer none), 1, 8) := by kernel_rfl
theorem wf_of {y : Int} (h0 : -9223372036854775808 ≤ y) (h1 : y ≤ 9223372036854775807) : (Lit.int .i64 y).wf = true := WalkArith.wf_i64 (by omega)
/-- m[x] of one that is there -/
theorem look_sub {w : World} {mb n : Nat} {D : DataW Value} {X : List Int} {g : Int → Nat} {x : Int} (hown : w.ownsMap Tryz.prog 3 ptR mb n D) (hS : SM D X g) (hx : x ∈ X) (hw : (Lit.int .i64 x).wf = true) :
    (Instr.lookup 152 (.map (some mb)) (.int .i64 x) false).run Tryz.prog w = .ok (.pointer (some ⟨g x, 0, none⟩)) w := by
  obtain ⟨v', ps, hrun, hr⟩ := hown.lookup law3 Tryz.underlying152 (zeroSQ w) (ptR_mk none) (keyOf3 hw)
  rw [hS.elems x hx] at hr
  have e := ptR_inv hr
  simp only [Prod.mk.injEq, DataW.held.injEq] at e
  rw [hrun, ← e.1]
/-- who subscribes, in order -/
structure SInv (l : List (Int × Sb)) (ls : Int) : Prop where
  ris : (ids l).Pairwise fun a b => a < b
  mem : ∀ x ∈ l, 1 ≤ x.1 ∧ x.1 ≤ ls ∧ 0 ≤ x.2.mo ∧ x.2.mo ≤ 3
  len : l.length ≤ 20
  ls0 : 0 ≤ ls
  ls1 : ls ≤ 1000000
theorem ids_len (l : List (Int × Sb)) : (ids l).length = l.length := by simp [ids]
theorem ris_lk {X : List Int} (h : X.Pairwise fun a b => a < b) : GM.Ris (X.map lk) := by
  unfold GM.Ris
  rw [List.pairwise_map]
  exact h
theorem nums_lk (X : List Int) : GM.nums (X.map lk) = X := by
  unfold GM.nums
  rw [List.map_map]
  exact List.map_id' _
/-- pointers to them -/
def pts (g : Int → Nat) (X : List Int) : List Value := X.map fun x => Value.pointer (some ⟨g x, 0, none⟩)
theorem pts_len (g : Int → Nat) (X : List Int) : (pts g X).length = X.length := by simp [pts]
theorem pts_app (g : Int → Nat) (X Y : List Int) : pts g (X ++ Y) = pts g X ++ pts g Y := by simp [pts]
theorem lit1 {w : World} {T : TypeId} (c0 : Value) : ∀ j u, [c0][j]? = some u → (w.alloc (.cells #[c0] T)).cell? ((⟨w.heap.size, 0, none⟩ : Addr).add j) = some u := by
  intro j u hu
  have := World.news_of_block (w := w.alloc (.cells #[c0] T)) (cs := #[c0]) (t := T) (fr := (0, 0)) (heap_alloc_new w _)
  exact this j u hu
theorem keys_calls (mb : Option Nat) (W : World) : Calls Tryz.prog 155 #[.map mb] W fun e w' => e = .returned (.func (.func 188) #[] #[.pointer (some ⟨W.heap.size, 0, none⟩)]) ∧ w' = W.alloc (.cells #[.map mb] 152) :=
  (callsIn_wide (n := 5)).1 (AnyZI.keys_in Tryz.keysS Fence.wide 5 trivial rfl mb W)
theorem sorted_calls (mb n : Nat) (D : DataW Value) (X : List Int) (w : World) (hown : w.ownsMap Tryz.prog 3 ptR mb n D) (hK : GM.Keys D (X.map lk)) (hr : X.Pairwise fun a b => a < b) (hl : X.length ≤ 1000) :
    Calls Tryz.prog 104 #[.func (.func 188) #[] #[.pointer (some ⟨w.heap.size, 0, none⟩)]] (w.alloc (.cells #[.map (some mb)] 152)) fun e w' => ∃ v, e = .returned v ∧ w'.ownsRow w.heap.size 3 1 v X.length (Gaps.ic X) ∧ Below w.heap.size w w' := by
  have hsize : Maps.size D = X.length := by
    have := hK.size (hown.entries law3) (ris_lk hr).apart
    rwa [List.length_map] at this
  have hperm := hK.perm hown law3 Tryz.underlying3 (ris_lk hr)
  rw [nums_lk] at hperm
  have hbl := hown.lt
  have hseq : SeqGives Fence.wide 2 Tryz.prog 188 #[.pointer (some ⟨w.heap.size, 0, none⟩)] encZ (fun ss => ss.Perm (intKeys D)) (Maps.size D) (w.alloc (.cells #[.map (some mb)] 152)) :=
    AnyZI.keys_gives (ρ := Tryz.keysS_ren) { Tryz.keysS with } Fence.wide _ trivial rfl (by omega) w.heap.size mb n D _ (by simp) (by simp) (by
      obtain ⟨es, clock, hb, Ft, hs, hD⟩ := hown
      exact ⟨es, clock, (Below.heap_alloc _ _ mb hbl).trans hb, Ft, hs, hD⟩)
  have cS := AnyZI.sorted_in Tryz.sortedA Fence.wide 5 trivial trivial trivial trivial rfl (by omega) (Gaps.sortsA _) (enters_of Tryz.func74 (by kernel_rfl) rfl) 188 #[.pointer (some ⟨w.heap.size, 0, none⟩)] trivial (enters_of Tryz.func188 (by kernel_rfl) rfl) _ _ (by unfold maxLen; omega) (by omega) _ hseq
  change CallsIn _ _ Tryz.prog 104 _ _ _ at cS
  refine ((callsIn_wide (n := 5)).1 cS).mono ?_
  rintro e w' ⟨v, ss, rfl, hS, hrow, hnil, hb⟩
  have hss : ss.Perm X := hS.trans hperm.symm
  have hlen : ss.length = X.length := hss.length_eq
  have hso := GM.sorted_nums (ris_lk hr) (ss := ss) (by rw [nums_lk]; exact hss)
  rw [nums_lk] at hso
  rw [hso, hlen] at hrow
  exact ⟨v, rfl, Gaps.own_base hrow (by simp), ((Below.refl _ w).alloc (Nat.le_refl _) _).trans (hb.mono (by simp))⟩
/-- under way within allSubs -/
structure ASt (w2 wr : World) (g : Int → Nat) (X : List Int) (v : Value) : Prop where
  below : Below w2.heap.size w2 wr
  own : wr.ownsRow w2.heap.size 160 1 v X.length (pts g X)
set_option maxHeartbeats 1000000 in
set_option maxRecDepth 100000 in
theorem allSubs_calls (n b : Nat) (o : Nat → Tg) (P : NP) (N : Nd) (w : World) (h : NAt w o n b P N) (hI : SInv N.sb N.ls) :
    Calls Tryz.prog 119 #[.pointer (some ⟨b, 0, none⟩)] w fun e w' => ∃ v, e = .returned v ∧ w'.ownsRow w.heap.size 160 1 v N.sb.length (pts (fun x => (P.sp x).s) (ids N.sb)) ∧ Below w.heap.size w w' := by
  obtain ⟨D, hown, hS⟩ := h.sbm
  have hl := ids_len N.sb
  have hlen := hI.len
  have c10 := h.cells.2.2.1
  have CS := hidden (sorted_calls P.sm N.sb.length D (ids N.sb) w hown hS.keys hI.ris (by omega))
  have HX : Hid (∀ x ∈ ids N.sb, (Lit.int .i64 x).wf = true) := by
    refine hidden ?_
    intro x hx
    obtain ⟨y, hy, rfl⟩ := List.mem_map.1 hx
    have := hI.mem y hy
    have := hI.ls1
    exact wf_of (by omega) (by omega)
  obtain ⟨g, hg⟩ : ∃ g : Int → Nat, (fun x => (P.sp x).s) = g := ⟨_, rfl⟩
  rw [hg] at hS
  rw [hg]
  obtain ⟨X, hX⟩ : ∃ X, ids N.sb = X := ⟨_, rfl⟩
  rw [hX] at hS CS HX hl
  rw [hX, ← hl]
  obtain ⟨sm, hsm⟩ : ∃ sm, P.sm = sm := ⟨_, rfl⟩
  rw [hsm] at hown CS c10
  obtain ⟨nn, hnn⟩ : ∃ nn, X.length = nn := ⟨_, rfl⟩
  have hn20 : nn ≤ 20 := by omega
  rw [hnn] at CS ⊢
  have HO := hidden hown
  have HS := hidden hS
  have HC := hidden c10
  have hnn' := hnn
  clear hg hX hl hlen hsm hown hS h hI hnn
  have hlz := hidden hnn'
  clear hnn'
  obtain ⟨i0, hii, hz0, hz1, hz2⟩ := info_parts infoSQ
  have CK := hidden keys_calls
  have c1 := HC.out
  go_enter Tryz.func119, Tryz.ntmps119
  go_wp2_with fail
  refine (CK.out _ _).mono ?_
  rintro e w1 ⟨rfl, rfl⟩
  go_wp2_with fail
  refine CS.out.mono ?_
  rintro e w2 ⟨kv, rfl, hrow, hb2⟩
  obtain ⟨ka, kc, rfl, hA, _, _, _⟩ := Gaps.own_ints hrow (by omega)
  have HA := hidden hA
  have HB := hidden hb2
  clear hrow hA hb2 c1
  have HA0 : Hid (ASt w2 w2 g (X.take 0) (.slice none 0 0)) := ⟨Below.refl _ _, World.ownsRow_nil _ _ _ _⟩
  go_wp2_with fail
  go_loopg [3, 13] nn (fun gh u y wr => ∃ (i : Nat) (v : Value), i + gh = nn ∧ v = u ∧ y = .int .i64 (i : Int) ∧ Hid (ASt w2 wr g (X.take i) v))
  case atStart => exact ⟨0, _, by omega, rfl, rfl, HA0⟩
  case round =>
    obtain ⟨i, v, hig, rfl, rfl, HT⟩ := hrel
    by_cases hi : i < nn
    · have hiz : (i : Int) < (nn : Int) := by omega
      obtain ⟨ba, oa, rfl, hcs⟩ := (HA.out.below HT.out.below).at (by omega)
      have c0 := hcs i hi
      have hlen : i < X.length := by rw [hlz.out]; exact hi
      obtain ⟨x, hx⟩ : ∃ x, X.getD i 0 = x := ⟨_, rfl⟩
      have hget : X[i] = x := by rw [← hx, List.getD_eq_getElem?_getD, List.getElem?_eq_getElem hlen]; rfl
      have hmem : x ∈ X := hget ▸ List.getElem_mem hlen
      have htk : X.take (i + 1) = X.take i ++ [x] := by rw [List.take_add_one, List.getElem?_eq_getElem hlen, hget]; rfl
      have hlt : (X.take i).length = i := by rw [List.length_take]; omega
      rw [hx] at c0
      have HTK := hidden htk
      have HLT := hidden hlt
      have hbel := HB.out.trans (HT.out.below.mono HB.out.size)
      have c1 := ext_cell hbel HC.out
      have ownr : wr.ownsMap Tryz.prog 3 ptR sm N.sb.length D := by
        obtain ⟨es, clock, hh, F, hs, hD⟩ := HO.out
        exact ⟨es, clock, (hbel.block sm (lt_of_block hh)).trans hh, F, hs, hD⟩
      have hlk := look_sub ownr HS.out hmem (HX.out x hmem)
      clear hcs hx hget htk hlt hlen hbel ownr hmem
      go_wp2_with (at_builtin; refine wpList_append_own _ rfl _ _ 210 rfl w2.heap.size 160 i0 _ 1 8 Tryz.underlying210 hii hz0 hz1 hz2 rfl (by decide) _ (X.take i).length (pts g (X.take i)) rfl (HT.out.own.alloc _) ⟨wr.heap.size, 0, none⟩ 1 1 [.pointer (some ⟨g x, 0, none⟩)] rfl rfl ?cc ?one ?b1 ?b2 ?b3 ?next)
      case cc => exact lit1 _
      case one => simp [Value.oneCell']
      case b1 => rw [HLT.out]; unfold maxLen; omega
      case b2 => rw [HLT.out]; omega
      case b3 => have := HT.out.below.size; simp; omega
      case next =>
      intro v3 w' hownr hgrow _
      have HN : Hid (ASt w2 w' g (X.take (i + 1)) v3) := by
        have hs := HT.out.below.size
        refine ⟨(HT.out.below.alloc hs _).grown hgrow (by simp; omega) (fun j hj => (HT.out.own.lt j hj).1), ?_⟩
        rw [HTK.out, pts_app, show (X.take i ++ [x]).length = min i X.length + 1 from by simp]
        exact hownr
      clear hownr hgrow
      go_wp2_with fail
      go_roundg (nn - (i + 1))
      case measure => omega
      case rel => exact ⟨i + 1, v3, by omega, rfl, by go_num, HN⟩
    · have hiz : ¬ (i : Int) < (nn : Int) := by omega
      obtain rfl : nn = i := by omega
      go_wp2_with fail
      go_ret
      have hs := HT.out.own
      have ht : X.take nn = X := List.take_of_length_le (by rw [hlz.out]; exact Nat.le_refl _)
      rw [ht, hlz.out] at hs
      exact ⟨_, rfl, Gaps.own_base hs HB.out.size, HB.out.trans (HT.out.below.mono HB.out.size)⟩
end Go.Proofs.YtpiamlgmadnepaaGreat.ND

