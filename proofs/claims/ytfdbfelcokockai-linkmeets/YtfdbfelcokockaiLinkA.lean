/-
  A Link in memory; what New, say, check, State and Other of package link, and the clock's At, return, and what they leave in memory.
-/
import Derived.Test.YtfdbfelcokockaiLinkI
namespace Go.Proofs.Ytfdbfelcokockai.Link
open Go.ChangeShapes Go.WideShapes Go.ChangeAt Go.RowKit Go.Proofs.Ytfdbfelcokockai.Mem Go.Proofs.Ytfdbfelcokockai.LK
set_option linter.unusedVariables false

/-- a Link in memory, by its six numbers -/
def L6 (w : World) (b : Nat) (nw me st ot hd sd : Int) : Prop := w.heap[b]? = some (.cells #[.int .i64 nw, .int .i64 me, .int .i64 st, .int .i64 ot, .int .i64 hd, .int .i64 sd] 40 (0, 0))
/-- a Link in memory -/
def LAt (w : World) (b : Nat) (s : Lk) : Prop := L6 w b s.nw s.me s.st s.ot s.hd s.sd
theorem L6.cells {w : World} {b : Nat} {nw me st ot hd sd : Int} (h : L6 w b nw me st ot hd sd) : w.cell? ⟨b, 0, none⟩ = some (.int .i64 nw) ∧ w.cell? ⟨b, 1, none⟩ = some (.int .i64 me) ∧ w.cell? ⟨b, 2, none⟩ = some (.int .i64 st) ∧ w.cell? ⟨b, 3, none⟩ = some (.int .i64 ot) ∧ w.cell? ⟨b, 4, none⟩ = some (.int .i64 hd) ∧ w.cell? ⟨b, 5, none⟩ = some (.int .i64 sd) := by
  simp only [L6] at h
  refine ⟨?_, ?_, ?_, ?_, ?_, ?_⟩ <;> simp [World.cell?, h]
theorem L6.free {w : World} {b : Nat} {nw me st ot hd sd : Int} (h : L6 w b nw me st ot hd sd) (j : Nat) : w.frozen? ⟨b, j, none⟩ = false := by
  simp only [L6] at h
  simp [World.frozen?, h]
theorem L6.lt {w : World} {b : Nat} {nw me st ot hd sd : Int} (h : L6 w b nw me st ot hd sd) : b < w.heap.size := lt_of_block h
theorem L6.only {w w' : World} {b : Nat} {nw me st ot hd sd : Int} {bs : List Nat} (h : L6 w b nw me st ot hd sd) (ho : Only bs w w') (hb : b ∉ bs) : L6 w' b nw me st ot hd sd := ho.block h hb
theorem L6.below {w w' : World} {b : Nat} {nw me st ot hd sd : Int} (h : L6 w b nw me st ot hd sd) (hb : Below w.heap.size w w') : L6 w' b nw me st ot hd sd := h.only (Only.of_below hb []) (by simp)
theorem L6.set0 {w : World} {b : Nat} {nw me st ot hd sd : Int} (h : L6 w b nw me st ot hd sd) (x : Int) : L6 (w.setCell ⟨b, 0, none⟩ (.int .i64 x)) b x me st ot hd sd := heap_setCell_same w b 0 _ _ _ h
theorem L6.set2 {w : World} {b : Nat} {nw me st ot hd sd : Int} (h : L6 w b nw me st ot hd sd) (x : Int) : L6 (w.setCell ⟨b, 2, none⟩ (.int .i64 x)) b nw me x ot hd sd := heap_setCell_same w b 2 _ _ _ h
theorem L6.set3 {w : World} {b : Nat} {nw me st ot hd sd : Int} (h : L6 w b nw me st ot hd sd) (x : Int) : L6 (w.setCell ⟨b, 3, none⟩ (.int .i64 x)) b nw me st x hd sd := heap_setCell_same w b 3 _ _ _ h
theorem L6.set4 {w : World} {b : Nat} {nw me st ot hd sd : Int} (h : L6 w b nw me st ot hd sd) (x : Int) : L6 (w.setCell ⟨b, 4, none⟩ (.int .i64 x)) b nw me st ot x sd := heap_setCell_same w b 4 _ _ _ h
theorem L6.set5 {w : World} {b : Nat} {nw me st ot hd sd : Int} (h : L6 w b nw me st ot hd sd) (x : Int) : L6 (w.setCell ⟨b, 5, none⟩ (.int .i64 x)) b nw me st ot hd x := heap_setCell_same w b 5 _ _ _ h
theorem LAt.only {w w' : World} {b : Nat} {s : Lk} {bs : List Nat} (h : LAt w b s) (ho : Only bs w w') (hb : b ∉ bs) : LAt w' b s := L6.only h ho hb
theorem LAt.below {w w' : World} {b : Nat} {s : Lk} (h : LAt w b s) (hb : Below w.heap.size w w') : LAt w' b s := L6.below h hb

/-- a message in memory -/
def Msg (w : World) (g : Nat) (k f y : Int) : Prop := w.heap[g]? = some (.cells #[.int .i64 k, .int .i64 f, .int .i64 y] 3 (0, 0))
theorem Msg.only {w w' : World} {g : Nat} {k f y : Int} {bs : List Nat} (h : Msg w g k f y) (ho : Only bs w w') (hb : g ∉ bs) : Msg w' g k f y := ho.block h hb
theorem Msg.below {w w' : World} {g : Nat} {k f y : Int} (h : Msg w g k f y) (hb : Below w.heap.size w w') : Msg w' g k f y := h.only (Only.of_below hb []) (by simp)
theorem Msg.lt {w : World} {g : Nat} {k f y : Int} (h : Msg w g k f y) : g < w.heap.size := lt_of_block h
theorem Msg.ne {w : World} {g b : Nat} {k f y : Int} {cs : Array Value} {t : TypeId} (h : Msg w g k f y) (hb : w.heap[b]? = some (.cells cs t (0, 0))) (ht : t ≠ 3) : g ≠ b := by
  rintro rfl
  unfold Msg at h
  rw [h] at hb
  simp at hb
  exact ht hb.2.symm
theorem Msg.arg {w : World} {g : Nat} {k f y : Int} (h : Msg w g k f y) : IArg w (some ⟨g, 0, none⟩) 3 [k, f, y] := by
  refine ⟨fun j hj => ⟨g, 0, rfl, ?_⟩, rfl, by omega⟩
  unfold Msg at h
  rcases (show j = 0 ∨ j = 1 ∨ j = 2 by simp at hj; omega) with rfl | rfl | rfl <;> (unfold World.cell?; rw [h]; rfl)
/-- what goes out, in memory -/
def Out (w : World) (v : Value) (O : List Int) : Prop := (O = [] ∧ v = .slice none 0 0) ∨ ∃ g k f y, O = [k, f, y] ∧ v = .slice (some ⟨g, 0, none⟩) 3 3 ∧ Msg w g k f y
theorem Out.nil0 (w : World) : Out w (.slice none 0 0) [] := .inl ⟨rfl, rfl⟩
theorem Out.msg {w : World} {g : Nat} {k f y : Int} (h : Msg w g k f y) : Out w (.slice (some ⟨g, 0, none⟩) 3 3) [k, f, y] := .inr ⟨g, k, f, y, rfl, rfl, h⟩
theorem Out.below {w w' : World} {v : Value} {O : List Int} (h : Out w v O) (hb : Below w.heap.size w w') : Out w' v O := by
  rcases h with h | ⟨g, k, f, y, rfl, rfl, h⟩
  · exact .inl h
  · exact .inr ⟨g, k, f, y, rfl, rfl, h.below hb⟩
theorem Out.past {w w' : World} {v : Value} {O : List Int} {b : Nat} {cs : Array Value} {t : TypeId} (h : Out w v O) (hb : w.heap[b]? = some (.cells cs t (0, 0))) (ht : t ≠ 3) (ho : Only [b] w w') : Out w' v O := by
  rcases h with h | ⟨g, k, f, y, rfl, rfl, h⟩
  · exact .inl h
  · exact .inr ⟨g, k, f, y, rfl, rfl, h.only ho (by simp; exact h.ne hb ht)⟩
theorem Out.arg {w : World} {v : Value} {O : List Int} (h : Out w v O) : ∃ a c, v = .slice a O.length c ∧ IArg w a O.length O := by
  rcases h with ⟨rfl, rfl⟩ | ⟨g, k, f, y, rfl, rfl, h⟩
  · exact ⟨_, _, rfl, IArg.nil _ _⟩
  · exact ⟨_, _, rfl, h.arg⟩

theorem isRun_calls (y : Int) (w : World) :
    Calls Try.prog 10 #[.int .i64 y] w fun e w' => e = .returned (.bool (decide (1 ≤ y ∧ y ≤ 1000000))) ∧ w' = w := by
  by_cases h : 1 ≤ y
  · have d : decide (1 ≤ y) = true := by simpa using h
    go_enter Try.func10, Try.ntmps10
    go_wp2_with fail
    go_ret
    exact ⟨by simp [h], rfl⟩
  · have d : decide (1 ≤ y) = false := by simpa using h
    go_enter Try.func10, Try.ntmps10
    go_wp2_with fail
    go_ret
    exact ⟨by simp, rfl⟩
theorem isRun_yes (y : Int) (w : World) (h0 : 1 ≤ y) (h1 : y ≤ 1000000) :
    Calls Try.prog 10 #[.int .i64 y] w fun e w' => e = .returned (.bool true) ∧ w' = w := by
  have := isRun_calls y w
  rw [show decide (1 ≤ y ∧ y ≤ 1000000) = true by simp [h0, h1]] at this
  exact this
theorem isRun_no (y : Int) (w : World) (h : y < 1 ∨ 1000000 < y) :
    Calls Try.prog 10 #[.int .i64 y] w fun e w' => e = .returned (.bool false) ∧ w' = w := by
  have := isRun_calls y w
  rw [show decide (1 ≤ y ∧ y ≤ 1000000) = false by simp; omega] at this
  exact this
theorem new_ok (m : Int) (w : World) (h0 : 1 ≤ m) (h1 : m ≤ 1000000) :
    Calls Try.prog 4 #[.int .i64 m] w fun e w' => e = .returned (.tuple #[.pointer (some ⟨w.heap.size, 0, none⟩), .nilIface]) ∧ LAt w' w.heap.size (st0 m) ∧ Below w.heap.size w w' := by
  have H := hidden (fun W => isRun_yes m W h0 h1)
  clear h0 h1
  go_enter Try.func4, Try.ntmps4
  go_wp2_with fail
  refine (H.out _).mono ?_
  rintro e w1 ⟨rfl, rfl⟩
  go_wp2_with fail
  go_ret2
  exact ⟨rfl, heap_alloc_new _ _, (Below.refl _ _).alloc (Nat.le_refl _) _⟩
theorem new_err (m : Int) (w : World) (h : m < 1 ∨ 1000000 < m) :
    Calls Try.prog 4 #[.int .i64 m] w fun e w' => e = .returned (.tuple #[.pointer none, errv 1]) ∧ w' = w := by
  have H := hidden (fun W => isRun_no m W h)
  clear h
  go_enter Try.func4, Try.ntmps4
  go_wp2_with fail
  refine (H.out _).mono ?_
  rintro e w1 ⟨rfl, rfl⟩
  go_wp2_with fail
  go_ret2
  exact ⟨rfl, rfl⟩
theorem state_calls (b : Nat) (st : Int) (w : World) (c2 : w.cell? ⟨b, 2, none⟩ = some (.int .i64 st)) :
    Calls Try.prog 7 #[.pointer (some ⟨b, 0, none⟩)] w fun e w' => e = .returned (.int .i64 st) ∧ w' = w := by
  go_enter Try.func7, Try.ntmps7
  go_wp2_with fail
  go_ret
  exact ⟨rfl, rfl⟩
theorem other_calls (b : Nat) (ot : Int) (w : World) (c3 : w.cell? ⟨b, 3, none⟩ = some (.int .i64 ot)) :
    Calls Try.prog 8 #[.pointer (some ⟨b, 0, none⟩)] w fun e w' => e = .returned (.int .i64 ot) ∧ w' = w := by
  go_enter Try.func8, Try.ntmps8
  go_wp2_with fail
  go_ret
  exact ⟨rfl, rfl⟩
set_option maxHeartbeats 1000000 in
theorem say_calls (b : Nat) (nw me st ot hd sd k now : Int) (w : World) (h : L6 w b nw me st ot hd sd) :
    Calls Try.prog 12 #[.pointer (some ⟨b, 0, none⟩), .int .i64 k, .int .i64 now] w fun e w' => ∃ g, e = .returned (.slice (some ⟨g, 0, none⟩) 3 3) ∧ L6 w' b nw me st ot hd now ∧ Msg w' g k me ot ∧ Only [b] w w' := by
  obtain ⟨c0, c1, c2, c3, c4, c5⟩ := h.cells
  have f5 := h.free 5
  have HL := hidden h
  clear h c0 c2 c4
  go_enter Try.func12, Try.ntmps12
  go_wp2_with fail
  obtain ⟨w1, hw1⟩ : ∃ w1, w.setCell ⟨b, 5, none⟩ (.int .i64 now) = w1 := ⟨_, rfl⟩
  have HL1 : Hid (L6 w1 b nw me st ot hd now) := by rw [← hw1]; exact HL.out.set5 now
  have HO1 : Hid (Only [b] w w1) := by rw [← hw1]; exact (Only.refl _ _).setCell (by simp) _
  rw [hw1]
  clear hw1 HL c1 c3 c5 f5
  obtain ⟨c0, c1, c2, c3, c4, c5⟩ := HL1.out.cells
  clear c0 c2 c4 c5
  go_region
  go_wp2_with fail
  go_ret
  exact ⟨_, rfl, HL1.out.below (((Below.refl _ _).alloc (Nat.le_refl _) _).drew), heap_alloc_new _ _, (HO1.out.alloc _).drew⟩

theorem res_ck {fn : Func} {tmps : Array Value} {w : World} {g i j : Nat} {x : Int} (hf : fn.results = #[.cell i 38, .tmp j]) (hi : tmps.getD i undef = .pointer (some ⟨g, 0, none⟩)) (hb : w.cell? ⟨g, 0, none⟩ = some (.int .i64 x)) :
    (results fn tmps).run Try.prog w = .ok (.tuple #[.agg #[.int .i64 x], tmps.getD j undef]) w := by
  have hi' : tmps[i]?.getD undef = .pointer (some ⟨g, 0, none⟩) := by simpa using hi
  simp [results, hf, hi', go_sem, hb]
theorem ck_cell (w : World) (x : Int) (O : Obj) : ((w.alloc O).alloc (.cells #[.int .i64 x] 38)).cell? ⟨w.heap.size + 1, 0, none⟩ = some (.int .i64 x) := by
  have h := heap_alloc_new (w.alloc O) (.cells #[.int .i64 x] 38)
  simp only [World.size_alloc] at h
  unfold World.cell?
  simp only [h]
  simp
theorem ck_below (w : World) (O1 O2 : Obj) : Below w.heap.size w ((w.alloc O1).alloc O2) :=
  ((Below.refl _ _).alloc (Nat.le_refl _) _).alloc (by simp) _
theorem at_calls (nw now : Int) (w : World) :
    Calls Try.prog 11 #[.agg #[.int .i64 nw], .int .i64 now] w fun e w' => e = .returned (.tuple #[.agg #[.int .i64 (if tf nw now = 0 then now else 0)], errv (tf nw now)]) ∧ Below w.heap.size w w' := by
  by_cases c : now < 0
  · have e : tf nw now = 1 := by unfold tf; rw [if_pos (.inl c)]
    rw [e]
    clear e
    go_enter Try.func11, Try.ntmps11
    go_wp2_with fail
    refine bodyPost_ret (res_ck (g := w.heap.size + 1) rfl rfl (ck_cell w _ _)) rfl ?_
    exact ⟨rfl, ck_below w _ _⟩
  by_cases c1 : 1000000 < now
  · have e : tf nw now = 1 := by unfold tf; rw [if_pos (.inr c1)]
    rw [e]
    clear e
    go_enter Try.func11, Try.ntmps11
    go_wp2_with fail
    refine bodyPost_ret (res_ck (g := w.heap.size + 1) rfl rfl (ck_cell w _ _)) rfl ?_
    exact ⟨rfl, ck_below w _ _⟩
  by_cases c2 : now < nw
  · have e : tf nw now = 6 := by unfold tf; rw [if_neg (by omega), if_pos c2]
    rw [e]
    clear e
    go_enter Try.func11, Try.ntmps11
    go_wp2_with fail
    refine bodyPost_ret (res_ck (g := w.heap.size + 1) rfl rfl (ck_cell w _ _)) rfl ?_
    exact ⟨rfl, ck_below w _ _⟩
  · have e : tf nw now = 0 := by unfold tf; rw [if_neg (by omega), if_neg c2]
    rw [e]
    clear e
    go_enter Try.func11, Try.ntmps11
    go_wp2_with fail
    refine bodyPost_ret (res_ck (g := w.heap.size + 1) rfl rfl (ck_cell w _ _)) rfl ?_
    exact ⟨rfl, ck_below w _ _⟩
end Go.Proofs.Ytfdbfelcokockai.Link
