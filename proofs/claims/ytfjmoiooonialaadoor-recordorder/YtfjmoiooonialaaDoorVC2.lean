/- How values stand: cmpOfOneKind, Cmp (behind the short form of VC). -/
import Derived.Test.YtfjmoiooonialaaDoorVC
import Derived.Deep.RegionWith
namespace Go.Proofs.YtfjmoiooonialaaDoor
open Go.ChangeShapes Go.WideShapes Go.ChangeAt Go.RowKit
set_option linter.unusedVariables false

set_option maxHeartbeats 1000000 in
set_option maxRecDepth 10000 in
theorem kind_num (k n1 n2 : Int) (hk : k = 0 ∨ k = 1) (t1 t2 : ByteArray) (c : Int) (w : World) : Calls Tryd.prog 41 #[val k n1 t1, val k n2 t2, .int .i64 c] w fun e w' =>
    e = .returned (.int .i64 (cmpI n1 n2)) ∧ Below w.heap.size w w' := by
  rcases hk with rfl | rfl
  all_goals
    go_enter Tryd.func41, Tryd.ntmps41
    go_wp2_with (first
      | (go_at_call 51; with_reducible refine Calls.mono (compare_i64 _ _ _) ?_; rintro e w1 ⟨rfl, rfl⟩))
    go_ret
    exact ⟨rfl, below_trans (new_below w _ rfl) (new_below _ _ rfl)⟩
set_option maxHeartbeats 1000000 in
set_option maxRecDepth 10000 in
theorem kind_blob (n1 n2 : Int) (t1 t2 : ByteArray) (h1 : t1.size ≤ 140737488355328) (h2 : t2.size ≤ 140737488355328) (c : Int) (w : World) : Calls Tryd.prog 41 #[val 3 n1 t1, val 3 n2 t2, .int .i64 c] w fun e w' =>
    e = .returned (.int .i64 (cmpL t1.data.toList t2.data.toList)) ∧ Below w.heap.size w w' := by
  have HC : Hid (∀ V, Calls Tryd.prog 50 #[.string t1, .string t2, .func (.func 47) #[] #[]] V fun e w' => e = .returned (.int .i64 (cmpL t1.data.toList t2.data.toList)) ∧ Below V.heap.size V w') := fun V => by
    have := cmpBytesPlain t1 t2 h1 h2 V; rw [List.map_id, List.map_id] at this; exact this
  go_enter Tryd.func41, Tryd.ntmps41
  go_wp2_with (first
    | (go_at_call 50; with_reducible refine Calls.mono (HC.out _) ?_; rintro e w1 ⟨rfl, hb1⟩))
  go_ret
  exact ⟨rfl, below_trans (below_trans (new_below w _ rfl) (new_below _ _ rfl)) hb1⟩
set_option maxHeartbeats 4000000 in
set_option maxRecDepth 10000 in
theorem kind_text (n1 n2 : Int) (t1 t2 : ByteArray) (h1 : t1.size ≤ 140737488355328) (h2 : t2.size ≤ 140737488355328) (c : Int) (w : World) : Calls Tryd.prog 41 #[val 2 n1 t1, val 2 n2 t2, .int .i64 c] w fun e w' =>
    e = .returned (.int .i64 (cmpL (foldL c t1.data.toList) (foldL c t2.data.toList))) ∧ Below w.heap.size w w' := by
  obtain ⟨x1, hx1⟩ : ∃ x, cntS c t1 = x := ⟨_, rfl⟩
  obtain ⟨x2, hx2⟩ : ∃ x, cntS c t2 = x := ⟨_, rfl⟩
  obtain ⟨fn, hfn⟩ : ∃ fn, collF c = .func (.func fn) #[] #[] := by unfold collF; split <;> exact ⟨_, rfl⟩
  have HC1 : Hid (∀ V, Calls Tryd.prog 48 #[.string t1, .int .i64 c] V fun e w' => e = .returned (.string x1) ∧ V = w') := fun V => by have := counted_walk t1 h1 c V; rw [hx1] at this; exact this
  have HC2 : Hid (∀ V, Calls Tryd.prog 48 #[.string t2, .int .i64 c] V fun e w' => e = .returned (.string x2) ∧ V = w') := fun V => by have := counted_walk t2 h2 c V; rw [hx2] at this; exact this
  have HF : Hid (∀ V, Calls Tryd.prog 49 #[.int .i64 c] V fun e w' => e = .returned (.func (.func fn) #[] #[]) ∧ V = w') := fun V => by have := byColl_walk c V; rw [hfn] at this; exact this
  have HB : Hid (∀ V, Calls Tryd.prog 50 #[.string x1, .string x2, .func (.func fn) #[] #[]] V fun e w' => e = .returned (.int .i64 (cmpL (foldL c t1.data.toList) (foldL c t2.data.toList))) ∧ Below V.heap.size V w') := fun V => by have := cmpColl t1 t2 h1 h2 c V; rw [hx1, hx2, hfn] at this; exact this
  clear hx1 hx2 hfn
  go_enter Tryd.func41, Tryd.ntmps41
  go_wp2
  go_region_with (first
    | (go_at_call 48; with_reducible refine Calls.mono (HC1.out _) ?_; rintro e w1 ⟨rfl, rfl⟩)
    | (go_at_call 48; with_reducible refine Calls.mono (HC2.out _) ?_; rintro e w1 ⟨rfl, rfl⟩)
    | (go_at_call 49; with_reducible refine Calls.mono (HF.out _) ?_; rintro e w1 ⟨rfl, rfl⟩))
  all_goals go_wp2_with (first
    | (go_at_call 50; with_reducible refine Calls.mono (HB.out _) ?_; rintro e w1 ⟨rfl, hb1⟩))
  all_goals go_ret
  all_goals exact ⟨rfl, below_trans (by go_grown) hb1⟩

theorem oneKind_walk (k n1 : Int) (t1 : ByteArray) (n2 : Int) (t2 : ByteArray) (c : Int) (hm1 : MayL k n1 t1.data.toList) (hm2 : MayL k n2 t2.data.toList) (w : World) : Calls Tryd.prog 41 #[val k n1 t1, val k n2 t2, .int .i64 c] w fun e w' =>
    e = .returned (.int .i64 (cmpV k n1 t1.data.toList k n2 t2.data.toList c)) ∧ Below w.heap.size w w' := by
  unfold cmpV
  rw [if_pos rfl]
  have hl1 : t1.data.toList.length = t1.size := by simp
  have hl2 : t2.data.toList.length = t2.size := by simp
  unfold MayL at hm1 hm2
  by_cases h2 : k = 2
  · subst h2
    rw [if_pos rfl]
    exact kind_text n1 n2 t1 t2 (by omega) (by omega) c w
  · rw [if_neg h2]
    by_cases h3 : k = 3
    · subst h3
      rw [if_pos rfl]
      exact kind_blob n1 n2 t1 t2 (by omega) (by omega) c w
    · rw [if_neg h3]
      exact kind_num k n1 n2 (by omega) t1 t2 c w

def cmpA (k1 n1 : Int) (t1 : ByteArray) (k2 n2 : Int) (t2 : ByteArray) (c : Int) : Int := if mayB k1 n1 t1 = true ∧ mayB k2 n2 t2 = true then cmpV k1 n1 t1.data.toList k2 n2 t2.data.toList c else 0

theorem two_later (w : World) (a b c x y z : Value) (T : TypeId) (V : World) (h : Below ((w.alloc (.cells #[a, b, c] T)).alloc (.cells #[x, y, z] T)).heap.size ((w.alloc (.cells #[a, b, c] T)).alloc (.cells #[x, y, z] T)) V) :
    (V.cell? ⟨w.heap.size, 0, none⟩ = some a ∧ V.cell? ⟨w.heap.size, 1, none⟩ = some b ∧ V.cell? ⟨w.heap.size, 2, none⟩ = some c) ∧
    (V.cell? ⟨w.heap.size + 1, 0, none⟩ = some x ∧ V.cell? ⟨w.heap.size + 1, 1, none⟩ = some y ∧ V.cell? ⟨w.heap.size + 1, 2, none⟩ = some z) ∧ Hid (Below w.heap.size w V) := by
  have e : ∀ i, i < 3 → (w.alloc (.cells #[a, b, c] T)).cell? ⟨w.heap.size, i, none⟩ = #[a, b, c][i]? := fun i hi => by
    unfold World.cell?
    have : (w.alloc (.cells #[a, b, c] T)).heap[w.heap.size]? = some (.cells #[a, b, c] T) := Array.getElem?_push_size
    simp only [this]
    rfl
  have e2 : ∀ i, i < 3 → ((w.alloc (.cells #[a, b, c] T)).alloc (.cells #[x, y, z] T)).cell? ⟨w.heap.size + 1, i, none⟩ = #[x, y, z][i]? := fun i hi => by
    unfold World.cell?
    have : ((w.alloc (.cells #[a, b, c] T)).alloc (.cells #[x, y, z] T)).heap[w.heap.size + 1]? = some (.cells #[x, y, z] T) := by
      show ((w.heap.push _).push _)[w.heap.size + 1]? = _
      rw [show w.heap.size + 1 = (w.heap.push (Obj.cells #[a, b, c] T)).size by simp]
      exact Array.getElem?_push_size
    simp only [this]
    rfl
  refine ⟨⟨cell_later h (cell_later (new_below _ _ rfl) (e 0 (by omega))), cell_later h (cell_later (new_below _ _ rfl) (e 1 (by omega))), cell_later h (cell_later (new_below _ _ rfl) (e 2 (by omega)))⟩, ⟨cell_later h (e2 0 (by omega)), cell_later h (e2 1 (by omega)), cell_later h (e2 2 (by omega))⟩, ?_⟩
  exact below_trans (below_trans (new_below w _ rfl) (new_below _ _ rfl)) h

set_option maxHeartbeats 1000000 in
set_option maxRecDepth 10000 in
theorem cmp_walk (k1 n1 : Int) (t1 : ByteArray) (k2 n2 : Int) (t2 : ByteArray) (c : Int) (w : World) : Calls Tryd.prog 30 #[val k1 n1 t1, val k2 n2 t2, .int .i64 c] w fun e w' =>
    e = .returned (.int .i64 (cmpA k1 n1 t1 k2 n2 t2 c)) ∧ Below w.heap.size w w' := by
  have HW : Hid (∀ V, _ → _) := two_later w (.int .i64 k1) (.int .i64 n1) (.string t1) (.int .i64 k2) (.int .i64 n2) (.string t2) 39
  have HM1 : Hid (∀ V, Calls Tryd.prog 35 #[.agg #[.int .i64 k1, .int .i64 n1, .string t1]] V fun e w' => e = .returned (.bool (mayB k1 n1 t1)) ∧ Below V.heap.size V w') := fun V => may_walk k1 n1 t1 V
  have HM2 : Hid (∀ V, Calls Tryd.prog 35 #[.agg #[.int .i64 k2, .int .i64 n2, .string t2]] V fun e w' => e = .returned (.bool (mayB k2 n2 t2)) ∧ Below V.heap.size V w') := fun V => may_walk k2 n2 t2 V
  unfold cmpA
  by_cases hm1 : mayB k1 n1 t1 = true
  · by_cases hm2 : mayB k2 n2 t2 = true
    · rw [if_pos ⟨hm1, hm2⟩]
      rw [hm1] at HM1
      rw [hm2] at HM2
      by_cases hk : k1 = k2
      · subst hk
        have HO : Hid (∀ V, Calls Tryd.prog 41 #[.agg #[.int .i64 k1, .int .i64 n1, .string t1], .agg #[.int .i64 k1, .int .i64 n2, .string t2], .int .i64 c] V fun e w' => e = .returned (.int .i64 (cmpV k1 n1 t1.data.toList k1 n2 t2.data.toList c)) ∧ Below V.heap.size V w') := fun V => oneKind_walk k1 n1 t1 n2 t2 c (of_decide_eq_true hm1) (of_decide_eq_true hm2) V
        clear hm1 hm2
        go_enter Tryd.func30, Tryd.ntmps30
        go_wp2_with (first
          | (go_at_call 35; with_reducible refine Calls.mono (HM1.out _) ?_; rintro e w1 ⟨rfl, hb1⟩; have HX1 := hide2 hb1; obtain ⟨⟨p0, p1, p2⟩, ⟨q0, q1, q2⟩, HB1⟩ := HW.out _ hb1; clear hb1)
          | (go_at_call 35; with_reducible refine Calls.mono (HM2.out _) ?_; rintro e w2 ⟨rfl, hb2⟩; have HX2 := hide2 (below_trans HX1.out hb2); obtain ⟨⟨p0, p1, p2⟩, ⟨q0, q1, q2⟩, HB2⟩ := HW.out _ HX2.out; clear hb2)
          | (go_at_call 41; with_reducible refine Calls.mono (HO.out _) ?_; rintro e w3 ⟨rfl, hb3⟩; have HB3 := hide2 (below_trans HB2.out hb3); clear hb3))
        go_ret
        exact ⟨rfl, HB3.out⟩
      · have HV : Hid (cmpV k1 n1 t1.data.toList k2 n2 t2.data.toList c = cmpI k1 k2) := by unfold cmpV; exact if_neg hk
        rw [HV.out]
        have hk1 : (k1 != k2) = true := by simp [bne, hk]
        have hk2 : (k1 == k2) = false := by simp [hk]
        clear hm1 hm2 HV
        go_enter Tryd.func30, Tryd.ntmps30
        go_wp2_with (first
          | (go_at_call 35; with_reducible refine Calls.mono (HM1.out _) ?_; rintro e w1 ⟨rfl, hb1⟩; have HX1 := hide2 hb1; obtain ⟨⟨p0, p1, p2⟩, ⟨q0, q1, q2⟩, HB1⟩ := HW.out _ hb1; clear hb1)
          | (go_at_call 35; with_reducible refine Calls.mono (HM2.out _) ?_; rintro e w2 ⟨rfl, hb2⟩; have HX2 := hide2 (below_trans HX1.out hb2); obtain ⟨⟨p0, p1, p2⟩, ⟨q0, q1, q2⟩, HB2⟩ := HW.out _ HX2.out; clear hb2)
          | (go_at_call 40; with_reducible refine Calls.mono (compare_kind _ _ _) ?_; rintro e w3 ⟨rfl, rfl⟩))
        go_ret
        exact ⟨rfl, HB2.out⟩
    · rw [if_neg (fun h => hm2 h.2)]
      rw [hm1] at HM1
      have hm2' : mayB k2 n2 t2 = false := by simpa using hm2
      rw [hm2'] at HM2
      clear hm1 hm2 hm2'
      go_enter Tryd.func30, Tryd.ntmps30
      go_wp2_with (first
        | (go_at_call 35; with_reducible refine Calls.mono (HM1.out _) ?_; rintro e w1 ⟨rfl, hb1⟩; have HX1 := hide2 hb1; obtain ⟨⟨p0, p1, p2⟩, ⟨q0, q1, q2⟩, HB1⟩ := HW.out _ hb1; clear hb1)
        | (go_at_call 35; with_reducible refine Calls.mono (HM2.out _) ?_; rintro e w2 ⟨rfl, hb2⟩; have HX2 := hide2 (below_trans HX1.out hb2); obtain ⟨⟨p0, p1, p2⟩, ⟨q0, q1, q2⟩, HB2⟩ := HW.out _ HX2.out; clear hb2))
      go_ret
      exact ⟨rfl, HB2.out⟩
  · rw [if_neg (fun h => hm1 h.1)]
    have hm1' : mayB k1 n1 t1 = false := by simpa using hm1
    rw [hm1'] at HM1
    clear hm1 hm1'
    go_enter Tryd.func30, Tryd.ntmps30
    go_wp2_with (first
      | (go_at_call 35; with_reducible refine Calls.mono (HM1.out _) ?_; rintro e w1 ⟨rfl, hb1⟩; have HX1 := hide2 hb1; obtain ⟨⟨p0, p1, p2⟩, ⟨q0, q1, q2⟩, HB1⟩ := HW.out _ hb1; clear hb1))
    go_ret
    exact ⟨rfl, HB1.out⟩
end Go.Proofs.YtfjmoiooonialaaDoor
