/-
  What the reference's ring's method Put returns of a packet that is new, and what it leaves in memory. Its condition: the ring keeps packets that a ring may keep.
-/
import Derived.Test.YtfehmpdeenpahadDoorRRingC
import Derived.Deep.AppendLies
import Derived.Deep.RegionHeld3
import Derived.Deep.RegionLaw
namespace Go.Proofs.YtfehmpdeenpahadDoor.RRing
open Go.ChangeShapes Go.WideShapes Go.ChangeAt Go.RowKit Go.Proofs.YtfehmpdeenpahadDoor.PM Go.Proofs.YtfehmpdeenpahadDoor.Mem Go.Proofs.YtfehmpdeenpahadDoor.Pack Go.Proofs.YtfehmpdeenpahadDoor.RM Go.Proofs.YtfehmpdeenpahadDoor.Ring
set_option linter.unusedVariables false

theorem infoIT : (Tryd.prog.info? 49).map (fun i => (i.zero, i.size, i.bytes)) = some (some (.agg #[.int .i64 0, .bool false, .int .i64 0, .int .i64 0, .int .i64 0, .int .i64 0, .bool false, .slice none 0 0]), 8, 80) := by kernel_rfl

/-- what is left of a list, so far -/
def part (n T : Int) (M : Its) (k : Nat) : Its := keeps n T (M.take k)
theorem part_all (n T : Int) (M : Its) : part n T M M.length = keeps n T M := by simp [part]
theorem part_keep {n T : Int} {M : Its} {k : Nat} {i : Int × Pk} (hi : M[k]? = some i) (h : T - n < i.1) : part n T M (k + 1) = part n T M k ++ [i] := by
  unfold part keeps
  rw [List.take_add_one, hi]
  simp [h]
theorem part_drop {n T : Int} {M : Its} {k : Nat} {i : Int × Pk} (hi : M[k]? = some i) (h : ¬ T - n < i.1) : part n T M (k + 1) = part n T M k := by
  unfold part keeps
  rw [List.take_add_one, hi]
  simp [h]
theorem part_len (n T : Int) (M : Its) (k : Nat) : (part n T M k).length ≤ k := by
  unfold part keeps
  have := List.length_filter_le (fun i : Int × Pk => decide (T - n < i.1)) (M.take k)
  simp at this ⊢
  omega
theorem part_slices {n T : Int} {M : Its} (h : Slices M) (k : Nat) : Slices (part n T M k) := fun i hi => h i (List.mem_of_mem_take (List.mem_filter.1 hi).1)

/-- a packet is written down behind the others -/
structure ASt (w wx : World) (base b : Nat) (n T : Int) (M : Its) (bs : List Nat) (g c : Nat) : Prop where
  only : Only bs w wx
  box : wx.heap[b]? = some (.cells #[.int .i64 n, .int .i64 T, .slice (some ⟨g, 0, none⟩) M.length c] 44 (0, 0))
  row : wx.ownsRow base 49 8 (.slice (some ⟨g, 0, none⟩) M.length c) M.length (flat M)
  ne : g ≠ b
/-- under way: the reference's block, its row, and what is left so far -/
structure FSt (w wr : World) (base b : Nat) (n T : Int) (M : Its) (bs : List Nat) (g c : Nat) (v : Value) (m k B : Nat) : Prop where
  st : ASt w wr base b n T M bs g c
  row2 : wr.ownsRow B 49 8 v m (flat (part n T M k))
  mm : m = (part n T M k).length
  lt1 : g < B
  ltb : b < B
  ltB : B ≤ wr.heap.size
  le : w.heap.size ≤ B
theorem ASt.below {w wx wy : World} {base b : Nat} {n T : Int} {M : Its} {bs : List Nat} {g c : Nat} (h : ASt w wx base b n T M bs g c) (hb : Below wx.heap.size wx wy) : ASt w wy base b n T M bs g c :=
  ⟨h.only.trans (Only.of_below hb _), (hb.block _ (lt_of_block h.box)).trans h.box, (Only.of_below hb []).owns h.row (by simp), h.ne⟩
/-- T is written -/
theorem ASt.top {w wx : World} {base b : Nat} {n T : Int} {M : Its} {bs : List Nat} {g c : Nat} (h : ASt w wx base b n T M bs g c) (y : Int) (hb : b ∈ bs) : ASt w (wx.setCell ⟨b, 1, none⟩ (.int .i64 y)) base b n y M bs g c := by
  refine ⟨h.only.setCell hb _, set3 h.box 1 _, ((Only.refl [b] wx).setCell (by simp) _).owns h.row ?_, h.ne⟩
  intro k hk hc
  simp [Value.ownBlock] at hk hc
  exact h.ne (hk.trans hc)
theorem fst_start {w wx : World} {base b : Nat} {n T : Int} {M : Its} {bs : List Nat} {g c : Nat} (h : ASt w wx base b n T M bs g c) : FSt w wx base b n T M bs g c (.slice none 0 0) 0 0 wx.heap.size := by
  have hg : g < wx.heap.size := (h.row.lt g rfl).2
  exact ⟨h, by simpa [part, keeps, flat] using World.ownsRow_nil wx wx.heap.size 49 8, by simp [part, keeps], hg, lt_of_block h.box, Nat.le_refl _, h.only.2.2.2.1⟩
theorem FSt.drop {w wr : World} {base b : Nat} {n T : Int} {M : Its} {bs : List Nat} {g c : Nat} {v : Value} {m k B : Nat} {i : Int × Pk} (h : FSt w wr base b n T M bs g c v m k B) (hi : M[k]? = some i) (hx : ¬ T - n < i.1) : FSt w wr base b n T M bs g c v m (k + 1) B := by
  have e := part_drop (n := n) (T := T) hi hx
  exact ⟨h.st, by rw [e]; exact h.row2, by rw [e]; exact h.mm, h.lt1, h.ltb, h.ltB, h.le⟩
theorem FSt.below {w wr wy : World} {base b : Nat} {n T : Int} {M : Its} {bs : List Nat} {g c : Nat} {v : Value} {m k B : Nat} (h : FSt w wr base b n T M bs g c v m k B) (hb : Below wr.heap.size wr wy) : FSt w wy base b n T M bs g c v m k B :=
  ⟨h.st.below hb, (Only.of_below hb []).owns h.row2 (by simp), h.mm, h.lt1, h.ltb, Nat.le_trans h.ltB hb.size, h.le⟩
theorem FSt.keep {w wr wy : World} {base b : Nat} {n T : Int} {M : Its} {bs : List Nat} {g c : Nat} {v v' : Value} {m k B : Nat} {i : Int × Pk} (h : FSt w wr base b n T M bs g c v m k B) (hi : M[k]? = some i) (hx : T - n < i.1) (hg : wr.grownBy wy v.ownBlock) (hown : wy.ownsRow B 49 8 v' (m + 1) (flat (part n T M k) ++ itCells i)) :
    FSt w wy base b n T M bs g c v' (m + 1) (k + 1) B := by
  have e := part_keep (n := n) (T := T) hi hx
  have ho : Only v.ownBlock.toList wr wy := (Only.refl _ _).grown hg (by simp)
  have hB : ∀ j, v.ownBlock = some j → B ≤ j := fun j hj => (h.row2.lt j hj).1
  have le := h.le
  refine ⟨⟨?_, ho.block h.st.box ?_, ho.owns h.st.row ?_, h.st.ne⟩, by rw [e, flat_app, flat_one]; exact hown, by rw [e]; simp [h.mm], h.lt1, h.ltb, Nat.le_trans h.ltB ho.2.2.2.1, h.le⟩
  · exact past h.st.only ho (fun j hj => .inr (by have := hB j (by simpa using hj); omega))
  · intro hc
    have := hB b (by simpa using hc)
    have := h.ltb
    omega
  · intro j hj hc
    simp [Value.ownBlock] at hj
    have := hB j (by simpa using hc)
    have := h.lt1
    omega
/-- what is left is put in the place of all -/
theorem FSt.fin {w wr : World} {base b : Nat} {n T : Int} {M : Its} {bs : List Nat} {g c : Nat} {av : Option Addr} {cv m B : Nat} (h : FSt w wr base b n T M bs g c (.slice av m cv) m M.length B) (hb : b ∈ bs) (hbase : base ≤ w.heap.size) :
    RefAt (wr.setCell ⟨b, 2, none⟩ (.slice av m cv)) base b n T (keeps n T M) (.slice av m cv) ∧ Only bs w (wr.setCell ⟨b, 2, none⟩ (.slice av m cv)) := by
  have le := h.le
  refine ⟨⟨set3 h.st.box 2 _, ?_⟩, h.st.only.setCell hb _⟩
  have hr := h.row2
  have hm := h.mm
  rw [part_all] at hr hm
  rw [← hm]
  refine own_base (((Only.refl [b] wr).setCell (by simp) _).owns hr ?_) (Nat.le_trans hbase le)
  intro j hj hc
  simp at hc
  subst hc
  have := (h.row2.lt j hj).1
  have := h.ltb
  omega

theorem ref_item {w : World} {base g c : Nat} {M : Its} {j : Nat} {i : Int × Pk} {a : Option Addr} {m k : Nat} (h : w.ownsRow base 49 8 (.slice (some ⟨g, 0, none⟩) M.length c) M.length (flat M)) (hi : M[j]? = some i) (hbv : i.2.bv = .slice a m k) :
    w.cell? ⟨g, j * 8, none⟩ = some (.int .i64 i.1) ∧ w.cell? ⟨g, j * 8 + 1, none⟩ = some (.bool false) ∧ w.cell? ⟨g, j * 8 + 2, none⟩ = some (.int .i64 i.2.s) ∧ w.cell? ⟨g, j * 8 + 3, none⟩ = some (.int .i64 i.2.t) ∧ w.cell? ⟨g, j * 8 + 4, none⟩ = some (.int .i64 i.2.l) ∧ w.cell? ⟨g, j * 8 + 5, none⟩ = some (.int .i64 i.2.q) ∧ w.cell? ⟨g, j * 8 + 6, none⟩ = some (.bool i.2.st) ∧ w.cell? ⟨g, j * 8 + 7, none⟩ = some (.slice a m k) :=
  ⟨(ref_cell h hi 0 (by omega)).trans rfl, (ref_cell h hi 1 (by omega)).trans rfl, (ref_cell h hi 2 (by omega)).trans rfl, (ref_cell h hi 3 (by omega)).trans rfl, (ref_cell h hi 4 (by omega)).trans rfl, (ref_cell h hi 5 (by omega)).trans rfl, (ref_cell h hi 6 (by omega)).trans rfl, (ref_cell h hi 7 (by omega)).trans (by simp [itCells, hbv])⟩

set_option maxHeartbeats 4000000 in
set_option maxRecDepth 100000 in
theorem rput_new (base b : Nat) (n T y s t l q : Int) (st : Bool) (a : Option Addr) (m cap : Nat) (L : List Nat) (M : Its) (v : Value) (w : World) (hR : RefAt w base b n T M v) (hI : RM.Inv n T M) (hS : Slices M) (hbase : base ≤ w.heap.size) (h0 : 0 ≤ y) (h1 : y ≤ 1099511627776) (hf : fault s t l q m = 0) (ho : T - n < y) (hh : has M y = false) :
    Calls Tryd.prog 14 #[.pointer (some ⟨b, 0, none⟩), .int .i64 y, .agg #[.int .i64 s, .int .i64 t, .int .i64 l, .int .i64 q, .bool st, .slice a m cap]] w fun e w' => e = .returned (.tuple #[.bool true, .int .i64 0]) ∧
      ∃ v', RefAt w' base b n (top T y) (keeps n (top T y) M ++ [(y, ⟨s, t, l, q, st, L, .slice a m cap⟩)]) v' ∧ Only (b :: v.ownBlock.toList) w w' := by
  obtain ⟨i0, hii, hz0, hz1, hz2⟩ := info_parts infoIT
  have HL := hidden (fun w => RPack.rlong_yes y w h0 h1)
  have C := fun w => RPack.rpacket_calls s t l q st a m cap w
  rw [hf] at C
  have HC := hidden C
  have HR := hidden hR
  have ht1 := hI.t1
  have ht2 := hI.t2
  have hn1 := hI.n1
  have hn2 := hI.n2
  have hlen : M.length ≤ 64 := by have := hI.len; omega
  have HAt : Hid (∀ W, RefAt W base b n T M v → Calls Tryd.prog 16 #[.pointer (some ⟨b, 0, none⟩), .int .i64 y] W fun e w' => e = .returned (.int .i64 (-1)) ∧ w' = W) := by
    refine hidden (fun W hW => (at_calls base b n T y M v W hW (by omega)).mono ?_)
    rintro e w' ⟨h, rfl⟩
    rcases h with ⟨_, h⟩ | ⟨j, i, hj, hi, _⟩
    · exact ⟨h, rfl⟩
    · exact absurd hi (has_no hh i (List.mem_of_getElem? hj))
  have d : decide (y ≤ T - n) = false := by simp; omega
  have HS := hidden hS
  have HI := hidden hI
  clear C hR hI hf hh hS
  go_enter Tryd.func14, Tryd.ntmps14
  go_wp2_with fail
  refine (HL.out _).mono ?_
  rintro e w' ⟨rfl, rfl⟩
  go_wp2_with fail
  refine (HC.out _).mono ?_
  rintro e w1 ⟨rfl, hb1⟩
  have HB := hidden (below_old hb1)
  have HX1 := hidden ((Box.new w s t l q st (.slice a m cap)).below hb1 (by simp))
  clear hb1
  obtain ⟨c0, c1, c2⟩ := ref_cells (HR.out.below HB.out)
  go_wp2_with fail
  go_quiet (fail)
  obtain ⟨w2, hw2⟩ : ∃ w2, w1.drewN nq = w2 := ⟨_, rfl⟩
  rw [hw2]
  have HB2 : Hid (Below w.heap.size w w2) := by rw [← hw2]; exact below_drewN HB.out _
  have HX2 : Hid (Box w2 w.heap.size s t l q st (.slice a m cap)) := by rw [← hw2]; exact HX1.out
  clear hw2 HB HX1 c0 c1 c2
  go_wp2_with fail
  refine (HAt.out _ (HR.out.below HB2.out)).mono ?_
  rintro e w3 ⟨rfl, rfl⟩
  obtain ⟨c0, c1, c2⟩ := ref_cells (HR.out.below HB2.out)
  obtain ⟨k0, k1, k2, k3, k4, k5⟩ := HX2.out.cells
  have e2 := fun O => cell_alloc c2 O
  have HRow := hidden (HR.out.below HB2.out).2
  have hbx := (HR.out.below HB2.out).1
  have HGr : Hid (∀ W, ((w3.alloc (.cells #[.int .i64 y, .bool false, .int .i64 s, .int .i64 t, .int .i64 l, .int .i64 q, .bool st, .slice a m cap] 49)).drew).grownBy W v.ownBlock → W.heap[b]? = some (.cells #[.int .i64 n, .int .i64 T, v] 44 (0, 0))) := by
    refine hidden (fun W hg => ?_)
    have hlt : b < w3.heap.size := lt_of_block hbx
    refine (hg.block b (by simp; omega) ?_).trans ((Below.heap_alloc _ _ _ hlt).trans hbx)
    intro e
    rcases HRow.out.2 with ⟨hv, _⟩ | ⟨g, c, cur, hv, _, hcur, _⟩
    · rw [hv] at e; simp [Value.ownBlock] at e
    · rw [hv] at e
      simp [Value.ownBlock] at e
      rw [← e, hbx] at hcur
      simp at hcur
  have HGc : Hid (∀ W, ((w3.alloc (.cells #[.int .i64 y, .bool false, .int .i64 s, .int .i64 t, .int .i64 l, .int .i64 q, .bool st, .slice a m cap] 49)).drew).grownBy W v.ownBlock → W.cell? ⟨b, 2, none⟩ = some v) := hidden (fun W hg => (cells3 (HGr.out W hg)).2.2)
  have HGf : Hid (∀ W, ((w3.alloc (.cells #[.int .i64 y, .bool false, .int .i64 s, .int .i64 t, .int .i64 l, .int .i64 q, .bool st, .slice a m cap] 49)).drew).grownBy W v.ownBlock → W.frozen? ⟨b, 2, none⟩ = false) := hidden (fun W hg => by have := HGr.out W hg; simp [World.frozen?, this])
  have hsz : base ≤ w3.heap.size := Nat.le_trans hbase HB2.out.size
  clear hbx
  obtain ⟨M2, hM2⟩ : ∃ M2 : Its, M ++ [(y, (⟨s, t, l, q, st, L, .slice a m cap⟩ : Pk))] = M2 := ⟨_, rfl⟩
  have HM2 := hidden hM2
  have hl2 : M2.length = M.length + 1 := by rw [← hM2]; simp
  have HL2 := hidden hl2
  clear hM2
  have HA2 : Hid (∀ g c W, ((w3.alloc (.cells #[.int .i64 y, .bool false, .int .i64 s, .int .i64 t, .int .i64 l, .int .i64 q, .bool st, .slice a m cap] 49)).drew).grownBy W v.ownBlock → W.ownsRow base 49 8 (.slice (some ⟨g, 0, none⟩) (M.length + 1) c) (M.length + 1) (flat M ++ [.int .i64 y, .bool false, .int .i64 s, .int .i64 t, .int .i64 l, .int .i64 q, .bool st, .slice a m cap]) →
      ASt w (W.setCell ⟨b, 2, none⟩ (.slice (some ⟨g, 0, none⟩) (M.length + 1) c)) base b n T M2 (b :: v.ownBlock.toList) g c) := by
    refine hidden (fun g c W hg hown => ?_)
    have hbox := HGr.out W hg
    have hgb : g ≠ b := by
      intro e
      rcases hown.2 with ⟨hv, _⟩ | ⟨g', c', cur, hv, _, hcur, _⟩
      · simp at hv
      · simp only [Value.slice.injEq, Option.some.injEq, Addr.mk.injEq, and_true] at hv
        rw [← hv.1, e, hbox] at hcur
        simp at hcur
    have ho : Only (b :: v.ownBlock.toList) w W := (Only.of_below ((HB2.out.alloc HB2.out.size _).drew) _).grown hg (by simp; intro k hk; exact .inr hk)
    refine ⟨ho.setCell (by simp) _, ?_, ?_, hgb⟩
    · have := set3 hbox 2 (.slice (some ⟨g, 0, none⟩) (M.length + 1) c)
      rw [HL2.out]
      exact this
    · rw [HL2.out, ← HM2.out, flat_app, flat_one]
      refine ((Only.refl [b] W).setCell (by simp) _).owns hown ?_
      intro k hk hc
      simp [Value.ownBlock] at hk hc
      exact hgb (hk.trans hc)
  clear hl2
  go_upto_region 12 with fail
  go_cut [] from 38 (fun wx => ∃ g c, Hid (ASt w wx base b n T M2 (b :: v.ownBlock.toList) g c))
  case first =>
    go_region_law
      ((refine step_append_lies _ (by rfl) _ _ _ (by rfl) base 49 i0 _ 8 80 Tryd.underlying42 hii hz0 hz1 hz2 rfl (by omega) v M.length (flat M) (by rfl) ((HRow.out.alloc _).drew)
          ⟨w3.heap.size, 0, none⟩ 1 1 [.int .i64 y, .bool false, .int .i64 s, .int .i64 t, .int .i64 l, .int .i64 q, .bool st, .slice a m cap] (by rfl) (by rfl) (World.news_of_block (cs := #[.int .i64 y, .bool false, .int .i64 s, .int .i64 t, .int .i64 l, .int .i64 q, .bool st, .slice a m cap]) (t := 49) (fr := (0, 0)) (heap_alloc_new w3 _)) (by simp [Value.oneCell'])
          (by omega) (by unfold maxLen; omega) (by omega) (by simp; omega) (w3.heap.size + 1) (by simp) ?_; intro gg c3 w4 hown hgrow hat hlt; have kc := HGc.out _ hgrow; have kf := HGf.out _ hgrow))
    all_goals go_wp2_with fail
    all_goals go_meet
    all_goals exact ⟨gg, c3, HA2.out _ _ _ hgrow hown⟩
  case rest =>
    obtain ⟨g, c, HA⟩ := hcut
    have hl2 := HL2.out
    have HSl : Hid (Slices M2) := by
      refine hidden ?_
      rw [← HM2.out]
      intro i hi
      rcases List.mem_append.1 hi with hi | hi
      · exact HS.out i hi
      · simp only [List.mem_singleton] at hi
        subst hi
        exact ⟨a, m, cap, rfl⟩
    have HK0 : Hid (∀ T', T' - n < y → keeps n T' M ++ [(y, (⟨s, t, l, q, st, L, .slice a m cap⟩ : Pk))] = keeps n T' M2) := by
      refine hidden (fun T' hT' => ?_)
      rw [← HM2.out]
      simp [keeps, hT']
    obtain ⟨c0, c1, c2⟩ := cells3 HA.out.box
    have f1 : wc.frozen? ⟨b, 1, none⟩ = false := by have := HA.out.box; simp [World.frozen?, this]
    clear HL HC HAt HRow HGr HGc HGf HA2 HX2 HB2 e2 hsz HR
    by_cases hu : T < y
    · have HTop : Hid (top T y = y) := hidden (by simp [top, hu])
      have HKeep := hidden (HK0.out y (by omega))
      go_wp2_with fail
      go_loopw [11, 12] (fun l' i' wr => ∃ (k m2 : Nat) (av : Option Addr) (cv B : Nat), k ≤ M2.length ∧ l' = .slice av m2 cv ∧ i' = .int .i64 k ∧ Hid (FSt w wr base b n y M2 (b :: v.ownBlock.toList) g c (.slice av m2 cv) m2 k B)) (fun _ i' _ => M2.length - (intOf i').toNat)
      case atStart => exact ⟨0, 0, none, 0, _, Nat.zero_le _, rfl, rfl, fst_start (HA.out.top y (by simp))⟩
      case round =>
        obtain ⟨k, m2, av, cv, B, hk, rfl, rfl, HF⟩ := hrel
        obtain ⟨c0, c1, c2⟩ := cells3 HF.out.st.box
        have hm2 : m2 ≤ 65 := by have := HF.out.mm; have := part_len n y M2 k; omega
        by_cases hlt : k < M2.length
        · obtain ⟨i, hi⟩ : ∃ i, M2[k]? = some i := ⟨_, List.getElem?_eq_getElem hlt⟩
          obtain ⟨ai, mi, ci, hbv⟩ := HSl.out i (List.mem_of_getElem? hi)
          have HRI := hidden (fun (W : World) (h : W.ownsRow base 49 8 (.slice (some ⟨g, 0, none⟩) M2.length c) M2.length (flat M2)) => ref_item h hi hbv)
          obtain ⟨r0, r1, r2, r3, r4, r5, r6, r7⟩ := HRI.out wr HF.out.st.row
          have HIt : Hid (itCells i = [.int .i64 i.1, .bool false, .int .i64 i.2.s, .int .i64 i.2.t, .int .i64 i.2.l, .int .i64 i.2.q, .bool i.2.st, .slice ai mi ci]) := by unfold itCells; rw [hbv]; rfl
          have HI2 := hidden hi
          clear hi hbv
          obtain ⟨x, hx⟩ : ∃ x, i.1 = x := ⟨_, rfl⟩
          rw [hx] at r0 HIt HRI
          have HX := hidden hx
          clear hx
          have k1 : (k : Int) < (M2.length : Int) := by omega
          by_cases hkp : y - n < x
          · have d2 : decide (y - n < x) = true := by simpa using hkp
            go_wp2_with fail
            go_quiet (fail)
            obtain ⟨wk, hwk⟩ : ∃ wk, wr.drewN nq = wk := ⟨_, rfl⟩
            rw [hwk]
            have HF2 : Hid (FSt w wk base b n y M2 (b :: v.ownBlock.toList) g c (.slice av m2 cv) m2 k B) := by rw [← hwk]; exact HF.out.below (below_drewN (Below.refl _ _) _)
            clear hwk HF c0 c1 c2 r0 r1 r2 r3 r4 r5 r6 r7
            obtain ⟨c0, c1, c2⟩ := cells3 HF2.out.st.box
            obtain ⟨r0, r1, r2, r3, r4, r5, r6, r7⟩ := HRI.out wk HF2.out.st.row
            have HFB := hidden HF2.out.ltB
            go_wp2_with (at_builtin; refine wpList_append_own _ rfl (.tmp 87) (.tmp 95) 42 rfl B 49 i0 _ 8 80 Tryd.underlying42 hii hz0 hz1 hz2 rfl (by decide) _ m2 (flat (part n y M2 k)) rfl ?own ⟨wk.heap.size, 0, none⟩ 1 1 [.int .i64 x, .bool false, .int .i64 i.2.s, .int .i64 i.2.t, .int .i64 i.2.l, .int .i64 i.2.q, .bool i.2.st, .slice ai mi ci] rfl rfl ?c1 ?c2 ?b1 ?b2 ?b3 ?next)
            case own => exact HF2.out.row2.alloc _
            case c1 => exact World.news_of_block (cs := #[.int .i64 x, .bool false, .int .i64 i.2.s, .int .i64 i.2.t, .int .i64 i.2.l, .int .i64 i.2.q, .bool i.2.st, .slice ai mi ci]) (t := 49) (fr := (0, 0)) (heap_alloc_new wk _)
            case c2 => intro u hu'; simp at hu'; rcases hu' with rfl | rfl | rfl | rfl | rfl | rfl | rfl | rfl <;> rfl
            case b1 => unfold maxLen; omega
            case b2 => omega
            case b3 => have := HFB.out; simp; omega
            case next =>
              intro v' w5 hown hgrow _
              obtain ⟨g', c', rfl⟩ : ∃ g' c', v' = .slice (some ⟨g', 0, none⟩) (m2 + 1) c' := by
                rcases hown.2 with ⟨_, h⟩ | ⟨g', c', _, h, _⟩
                · omega
                · exact ⟨g', c', h⟩
              have HF5 : Hid (FSt w w5 base b n y M2 (b :: v.ownBlock.toList) g c (.slice (some ⟨g', 0, none⟩) (m2 + 1) c') (m2 + 1) (k + 1) B) :=
                (HF2.out.below ((Below.refl _ _).alloc (Nat.le_refl _) _)).keep HI2.out (by rw [HX.out]; exact hkp) hgrow (by rw [HIt.out]; exact hown)
              clear hown hgrow
              go_wp2_with fail
              go_roundw
              case rel => exact ⟨k + 1, m2 + 1, some ⟨g', 0, none⟩, c', B, by omega, rfl, by go_num, HF5⟩
              case measure => simp [intOf]; omega
          · have d2 : decide (y - n < x) = false := by simpa using hkp
            go_wp2_with fail
            go_quiet (fail)
            go_wp2_with fail
            go_roundw
            case rel => exact ⟨k + 1, m2, av, cv, B, by omega, rfl, by go_num, (HF.out.below (below_drewN (Below.refl _ _) _)).drop HI2.out (by rw [HX.out]; omega)⟩
            case measure => simp [intOf]; omega
        · have hkM : k = M2.length := by omega
          have f2 : wr.frozen? ⟨b, 2, none⟩ = false := by have := HF.out.st.box; simp [World.frozen?, this]
          have HFin : Hid (RefAt (wr.setCell ⟨b, 2, none⟩ (.slice av m2 cv)) base b n y (keeps n y M2) (.slice av m2 cv) ∧ Only (b :: v.ownBlock.toList) w (wr.setCell ⟨b, 2, none⟩ (.slice av m2 cv))) := FSt.fin (B := B) (by rw [← hkM]; exact HF.out) (by simp) hbase
          clear hkM
          go_wp2_with fail
          go_ret2
          exact ⟨rfl, _, by rw [HTop.out, HKeep.out]; exact HFin.out⟩
    · have HTop : Hid (top T y = T) := hidden (by simp [top, hu])
      have HKeep := hidden (HK0.out T ho)
      go_wp2_with fail
      go_loopw [11, 12] (fun l' i' wr => ∃ (k m2 : Nat) (av : Option Addr) (cv B : Nat), k ≤ M2.length ∧ l' = .slice av m2 cv ∧ i' = .int .i64 k ∧ Hid (FSt w wr base b n T M2 (b :: v.ownBlock.toList) g c (.slice av m2 cv) m2 k B)) (fun _ i' _ => M2.length - (intOf i').toNat)
      case atStart => exact ⟨0, 0, none, 0, _, Nat.zero_le _, rfl, rfl, fst_start HA.out⟩
      case round =>
        obtain ⟨k, m2, av, cv, B, hk, rfl, rfl, HF⟩ := hrel
        obtain ⟨c0, c1, c2⟩ := cells3 HF.out.st.box
        have hm2 : m2 ≤ 65 := by have := HF.out.mm; have := part_len n T M2 k; omega
        by_cases hlt : k < M2.length
        · obtain ⟨i, hi⟩ : ∃ i, M2[k]? = some i := ⟨_, List.getElem?_eq_getElem hlt⟩
          obtain ⟨ai, mi, ci, hbv⟩ := HSl.out i (List.mem_of_getElem? hi)
          have HRI := hidden (fun (W : World) (h : W.ownsRow base 49 8 (.slice (some ⟨g, 0, none⟩) M2.length c) M2.length (flat M2)) => ref_item h hi hbv)
          obtain ⟨r0, r1, r2, r3, r4, r5, r6, r7⟩ := HRI.out wr HF.out.st.row
          have HIt : Hid (itCells i = [.int .i64 i.1, .bool false, .int .i64 i.2.s, .int .i64 i.2.t, .int .i64 i.2.l, .int .i64 i.2.q, .bool i.2.st, .slice ai mi ci]) := by unfold itCells; rw [hbv]; rfl
          have HI2 := hidden hi
          clear hi hbv
          obtain ⟨x, hx⟩ : ∃ x, i.1 = x := ⟨_, rfl⟩
          rw [hx] at r0 HIt HRI
          have HX := hidden hx
          clear hx
          have k1 : (k : Int) < (M2.length : Int) := by omega
          by_cases hkp : T - n < x
          · have d2 : decide (T - n < x) = true := by simpa using hkp
            go_wp2_with fail
            go_quiet (fail)
            obtain ⟨wk, hwk⟩ : ∃ wk, wr.drewN nq = wk := ⟨_, rfl⟩
            rw [hwk]
            have HF2 : Hid (FSt w wk base b n T M2 (b :: v.ownBlock.toList) g c (.slice av m2 cv) m2 k B) := by rw [← hwk]; exact HF.out.below (below_drewN (Below.refl _ _) _)
            clear hwk HF c0 c1 c2 r0 r1 r2 r3 r4 r5 r6 r7
            obtain ⟨c0, c1, c2⟩ := cells3 HF2.out.st.box
            obtain ⟨r0, r1, r2, r3, r4, r5, r6, r7⟩ := HRI.out wk HF2.out.st.row
            have HFB := hidden HF2.out.ltB
            go_wp2_with (at_builtin; refine wpList_append_own _ rfl (.tmp 87) (.tmp 95) 42 rfl B 49 i0 _ 8 80 Tryd.underlying42 hii hz0 hz1 hz2 rfl (by decide) _ m2 (flat (part n T M2 k)) rfl ?own ⟨wk.heap.size, 0, none⟩ 1 1 [.int .i64 x, .bool false, .int .i64 i.2.s, .int .i64 i.2.t, .int .i64 i.2.l, .int .i64 i.2.q, .bool i.2.st, .slice ai mi ci] rfl rfl ?c1 ?c2 ?b1 ?b2 ?b3 ?next)
            case own => exact HF2.out.row2.alloc _
            case c1 => exact World.news_of_block (cs := #[.int .i64 x, .bool false, .int .i64 i.2.s, .int .i64 i.2.t, .int .i64 i.2.l, .int .i64 i.2.q, .bool i.2.st, .slice ai mi ci]) (t := 49) (fr := (0, 0)) (heap_alloc_new wk _)
            case c2 => intro u hu'; simp at hu'; rcases hu' with rfl | rfl | rfl | rfl | rfl | rfl | rfl | rfl <;> rfl
            case b1 => unfold maxLen; omega
            case b2 => omega
            case b3 => have := HFB.out; simp; omega
            case next =>
              intro v' w5 hown hgrow _
              obtain ⟨g', c', rfl⟩ : ∃ g' c', v' = .slice (some ⟨g', 0, none⟩) (m2 + 1) c' := by
                rcases hown.2 with ⟨_, h⟩ | ⟨g', c', _, h, _⟩
                · omega
                · exact ⟨g', c', h⟩
              have HF5 : Hid (FSt w w5 base b n T M2 (b :: v.ownBlock.toList) g c (.slice (some ⟨g', 0, none⟩) (m2 + 1) c') (m2 + 1) (k + 1) B) :=
                (HF2.out.below ((Below.refl _ _).alloc (Nat.le_refl _) _)).keep HI2.out (by rw [HX.out]; exact hkp) hgrow (by rw [HIt.out]; exact hown)
              clear hown hgrow
              go_wp2_with fail
              go_roundw
              case rel => exact ⟨k + 1, m2 + 1, some ⟨g', 0, none⟩, c', B, by omega, rfl, by go_num, HF5⟩
              case measure => simp [intOf]; omega
          · have d2 : decide (T - n < x) = false := by simpa using hkp
            go_wp2_with fail
            go_quiet (fail)
            go_wp2_with fail
            go_roundw
            case rel => exact ⟨k + 1, m2, av, cv, B, by omega, rfl, by go_num, (HF.out.below (below_drewN (Below.refl _ _) _)).drop HI2.out (by rw [HX.out]; omega)⟩
            case measure => simp [intOf]; omega
        · have hkM : k = M2.length := by omega
          have f2 : wr.frozen? ⟨b, 2, none⟩ = false := by have := HF.out.st.box; simp [World.frozen?, this]
          have HFin : Hid (RefAt (wr.setCell ⟨b, 2, none⟩ (.slice av m2 cv)) base b n T (keeps n T M2) (.slice av m2 cv) ∧ Only (b :: v.ownBlock.toList) w (wr.setCell ⟨b, 2, none⟩ (.slice av m2 cv))) := FSt.fin (B := B) (by rw [← hkM]; exact HF.out) (by simp) hbase
          clear hkM
          go_wp2_with fail
          go_ret2
          exact ⟨rfl, _, by rw [HTop.out, HKeep.out]; exact HFin.out⟩
end Go.Proofs.YtfehmpdeenpahadDoor.RRing
