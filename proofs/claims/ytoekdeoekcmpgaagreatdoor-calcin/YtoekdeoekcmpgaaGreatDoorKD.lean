/- Package calc: Num. -/
import Derived.Test.YtoekdeoekcmpgaaGreatDoorKC
namespace Go.Proofs.YtoekdeoekcmpgaaGreatDoor
open Go.ChangeShapes Go.WideShapes Go.ChangeAt Go.RowKit
set_option linter.unusedVariables false

/-- A value as a number. -/
def numO (k n : Int) (t : List UInt8) : Option Int := if MayL k n t then (if k = 1 then some n else if k = 2 ∨ k = 3 then numT t else none) else none

abbrev vcells (k n : Int) (t : ByteArray) : Obj := .cells #[.int .i64 k, .int .i64 n, .string t] 24
abbrev nilcells : Obj := .cells #[.int .i64 0, .int .i64 0, .string ⟨#[]⟩] 24

theorem below_set3g {w w1 : World} {g : Nat} (h : Below w.heap.size w w1) (hg : w.heap.size ≤ g) (a b c : Value) : Below w.heap.size w (((w1.setCell ⟨g, 0, none⟩ a).setCell ⟨g, 1, none⟩ b).setCell ⟨g, 2, none⟩ c) :=
  ((h.setCell hg _).setCell hg _).setCell hg _

theorem blk_later {W V : World} {g : Nat} {a b c : Value} {T : TypeId} (hb : W.heap[g]? = some (.cells #[a, b, c] T (0, 0))) (h : Below W.heap.size W V) :
    V.heap[g]? = some (.cells #[a, b, c] T (0, 0)) := by
  rw [h.block g (Array.getElem?_eq_some_iff.1 hb).1]; exact hb
theorem blk_alloc {V : World} {g : Nat} {x : Obj} (hb : V.heap[g]? = some x) (o : Obj) : (V.alloc o).heap[g]? = some x :=
  (Below.heap_alloc _ _ _ (Array.getElem?_eq_some_iff.1 hb).1).trans hb

/-- A parameter's block and the result's own, in every later world. -/
theorem pr_later (w : World) (k n : Int) (t : ByteArray) (V : World) (h : Below ((w.alloc (vcells k n t)).alloc nilcells).heap.size ((w.alloc (vcells k n t)).alloc nilcells) V) :
    (V.cell? ⟨w.heap.size, 0, none⟩ = some (.int .i64 k) ∧ V.cell? ⟨w.heap.size, 1, none⟩ = some (.int .i64 n) ∧ V.cell? ⟨w.heap.size, 2, none⟩ = some (.string t)) ∧
    (∀ o, (V.alloc o).cell? ⟨w.heap.size, 0, none⟩ = some (.int .i64 k)) ∧ (∀ o, (V.alloc o).cell? ⟨w.heap.size, 1, none⟩ = some (.int .i64 n)) ∧ (∀ o, (V.alloc o).cell? ⟨w.heap.size, 2, none⟩ = some (.string t)) ∧
    (V.cell? ⟨w.heap.size + 1, 0, none⟩ = some (.int .i64 0) ∧ V.cell? ⟨w.heap.size + 1, 1, none⟩ = some (.int .i64 0) ∧ V.cell? ⟨w.heap.size + 1, 2, none⟩ = some (.string ⟨#[]⟩) ∧ V.frozen? ⟨w.heap.size + 1, 0, none⟩ = false ∧ V.frozen? ⟨w.heap.size + 1, 1, none⟩ = false ∧ V.frozen? ⟨w.heap.size + 1, 2, none⟩ = false) ∧
    Hid (V.heap[w.heap.size + 1]? = some (nilcells)) ∧ Hid (Below w.heap.size w V) := by
  have hP : ((w.alloc (vcells k n t)).alloc nilcells).heap[w.heap.size]? = some (vcells k n t) := by
    refine blk_alloc ?_ _
    show (w.heap.push _)[w.heap.size]? = _
    simp
  have hR : ((w.alloc (vcells k n t)).alloc nilcells).heap[w.heap.size + 1]? = some nilcells := by
    show ((w.heap.push _).push _)[w.heap.size + 1]? = _
    have : w.heap.size + 1 = (w.heap.push (vcells k n t)).size := by simp
    rw [this]; exact Array.getElem?_push_size
  have hP' := blk_later hP h
  have hR' := blk_later hR h
  obtain ⟨d0, d1, d2, -, -, -⟩ := res_facts hP'
  refine ⟨⟨d0, d1, d2⟩, fun o => (res_facts (blk_alloc hP' o)).1, fun o => (res_facts (blk_alloc hP' o)).2.1, fun o => (res_facts (blk_alloc hP' o)).2.2.1, res_facts hR', hR', ?_⟩
  exact below_trans (below_trans (new_below w _ rfl) (new_below _ _ rfl)) h

set_option maxHeartbeats 1000000 in
set_option maxRecDepth 10000 in
theorem num_no (k n : Int) (t : ByteArray) (hm : mayB k n t = false) (w : World) : Calls Tryz.prog 12 #[val k n t] w fun e w' => e = .returned (val 0 0 ⟨#[]⟩) ∧ Below w.heap.size w w' := by
  have HM : Hid (∀ V, Calls Tryz.prog 32 #[.agg #[.int .i64 k, .int .i64 n, .string t]] V fun e w' => e = .returned (.bool false) ∧ Below V.heap.size V w') := fun V => by have := may_walk k n t V; rw [hm] at this; exact this
  have HW : Hid (∀ V, _ → _) := pr_later w k n t
  clear hm
  go_enter Tryz.func12, Tryz.ntmps12
  go_wp2_with (first
    | (go_at_call 32; with_reducible refine Calls.mono (HM.out _) ?_; rintro e w1 ⟨rfl, hb1⟩; obtain ⟨⟨p0, p1, p2⟩, q0, q1, q2, ⟨d0, d1, d2, f0, f1, f2⟩, HK1, HB1⟩ := HW.out _ hb1; clear hb1))
  exact ret_val Tryz.results12 rfl HK1.out ⟨rfl, below_set3g HB1.out (Nat.le_succ _) _ _ _⟩

set_option maxHeartbeats 1000000 in
set_option maxRecDepth 10000 in
theorem num_null (w : World) : Calls Tryz.prog 12 #[val 0 0 ⟨#[]⟩] w fun e w' => e = .returned (val 0 0 ⟨#[]⟩) ∧ Below w.heap.size w w' := by
  have HM : Hid (∀ V, Calls Tryz.prog 32 #[.agg #[.int .i64 0, .int .i64 0, .string ⟨#[]⟩]] V fun e w' => e = .returned (.bool true) ∧ Below V.heap.size V w') := fun V => may_walk 0 0 ⟨#[]⟩ V
  have HW : Hid (∀ V, _ → _) := pr_later w 0 0 ⟨#[]⟩
  go_enter Tryz.func12, Tryz.ntmps12
  go_wp2_with (first
    | (go_at_call 32; with_reducible refine Calls.mono (HM.out _) ?_; rintro e w1 ⟨rfl, hb1⟩; obtain ⟨⟨p0, p1, p2⟩, q0, q1, q2, ⟨d0, d1, d2, f0, f1, f2⟩, HK1, HB1⟩ := HW.out _ hb1; clear hb1))
  exact ret_val Tryz.results12 rfl HK1.out ⟨rfl, below_set3g HB1.out (Nat.le_succ _) _ _ _⟩

set_option maxHeartbeats 1000000 in
set_option maxRecDepth 10000 in
theorem num_int (n : Int) (w : World) : Calls Tryz.prog 12 #[val 1 n ⟨#[]⟩] w fun e w' => e = .returned (val 1 n ⟨#[]⟩) ∧ Below w.heap.size w w' := by
  have HM : Hid (∀ V, Calls Tryz.prog 32 #[.agg #[.int .i64 1, .int .i64 n, .string ⟨#[]⟩]] V fun e w' => e = .returned (.bool true) ∧ Below V.heap.size V w') := fun V => may_walk 1 n ⟨#[]⟩ V
  have HW : Hid (∀ V, _ → _) := pr_later w 1 n ⟨#[]⟩
  go_enter Tryz.func12, Tryz.ntmps12
  go_wp2_with (first
    | (go_at_call 32; with_reducible refine Calls.mono (HM.out _) ?_; rintro e w1 ⟨rfl, hb1⟩; obtain ⟨⟨p0, p1, p2⟩, q0, q1, q2, ⟨d0, d1, d2, f0, f1, f2⟩, HK1, HB1⟩ := HW.out _ hb1; clear hb1))
  exact ret_val Tryz.results12 rfl HK1.out ⟨rfl, below_set3g HB1.out (Nat.le_succ _) _ _ _⟩

theorem trimLeft_le (l cs : List UInt8) : (Lib.trimLeftS l cs).length ≤ l.length := by
  unfold Lib.trimLeftS
  exact (List.dropWhile_suffix _).length_le
theorem firstN_le (l : List UInt8) : (firstN l).length ≤ l.length + 1 := by
  unfold firstN
  split
  · simp
  · have h := congrArg List.length (digs_rest l)
    simp only [List.length_append] at h ⊢
    omega

set_option maxHeartbeats 1000000 in
set_option maxRecDepth 10000 in
theorem num_text (k : Int) (hk : k = 2 ∨ k = 3) (t : ByteArray) (ht : t.size ≤ 400) (w : World) (hE : Env w) : Calls Tryz.prog 12 #[val k 0 t] w fun e w' => e = .returned (optV (numT t.data.toList)) ∧ Below w.heap.size w w' := by
  have hm : mayB k 0 t = true := by rcases hk with rfl | rfl <;> (first | rw [may2] | rw [may3]) <;> simpa using ht
  have HM : Hid (∀ V, Calls Tryz.prog 32 #[.agg #[.int .i64 k, .int .i64 0, .string t]] V fun e w' => e = .returned (.bool true) ∧ Below V.heap.size V w') := fun V => by have := may_walk k 0 t V; rw [hm] at this; exact this
  have HW : Hid (∀ V, _ → _) := pr_later w k 0 t
  obtain ⟨u, hu⟩ : ∃ u : ByteArray, u = ⟨(Lib.trimLeftS t.data.toList blankL).toArray⟩ := ⟨_, rfl⟩
  obtain ⟨f, hf⟩ : ∃ f : ByteArray, f = ⟨(firstN u.data.toList).toArray⟩ := ⟨_, rfl⟩
  have htl : t.data.toList.length = t.size := by simp
  have hus : u.size ≤ 400 := by rw [hu, ba_size]; have := trimLeft_le t.data.toList blankL; omega
  have hul : u.data.toList.length = u.size := by simp
  have hfs : f.size ≤ 1000 := by rw [hf, ba_size]; have := firstN_le u.data.toList; omega
  have HT : Hid (∀ V, Calls Tryz.prog 35 #[.string t, .string ⟨#[32, 9, 10, 13]⟩] V fun e w' => e = .returned (.string u) ∧ Below V.heap.size V w') := fun V => by rw [hu]; exact tl_blanks t V
  have HF : Hid (∀ V, Calls Tryz.prog 34 #[.string u] V fun e w' => e = .returned (.string f) ∧ Below V.heap.size V w') := fun V => by rw [hf]; exact firstNumber_walk u (by omega) V
  obtain ⟨k1, n1, t1, hv⟩ : ∃ k1 n1 t1, optV (numT t.data.toList) = val k1 n1 t1 := by cases numT t.data.toList with | none => exact ⟨_, _, _, rfl⟩ | some m => exact ⟨_, _, _, rfl⟩
  have HN : Hid (∀ V, Env V → Calls Tryz.prog 33 #[.string f] V fun e w' => e = .returned (val k1 n1 t1) ∧ Below V.heap.size V w') := fun V hV => by
    have := knumber_walk f hfs V hV
    have e1 : intL f.data.toList = numT t.data.toList := by unfold numT; rw [hf, hu]
    rw [e1, hv] at this
    exact this
  have HE : Hid (∀ V, Below w.heap.size w V → Env V) := fun V h => hE.below h
  rw [hv]
  clear hm hu hf hv hE hus hul hfs htl
  rcases hk with rfl | rfl
  all_goals
    go_enter Tryz.func12, Tryz.ntmps12
    go_wp2_with (first
      | (go_at_call 32; with_reducible refine Calls.mono (HM.out _) ?_; rintro e w1 ⟨rfl, hb1⟩; obtain ⟨⟨p0, p1, p2⟩, q0, q1, q2, ⟨d0, d1, d2, f0, f1, f2⟩, HK1, HB1⟩ := HW.out _ hb1; have HX1 := hide hb1; clear hb1)
      | (go_at_call 35; with_reducible refine Calls.mono (HT.out _) ?_; rintro e w2 ⟨rfl, hb2⟩; have HX2 := hide (below_trans HX1.out hb2); clear hb2)
      | (go_at_call 34; with_reducible refine Calls.mono (HF.out _) ?_; rintro e w3 ⟨rfl, hb3⟩; have HX3 := hide (below_trans HX2.out hb3); obtain ⟨-, -, -, -, -, HK3, HB3⟩ := HW.out _ HX3.out; clear hb3)
      | (go_at_call 33; with_reducible refine Calls.mono (HN.out _ (HE.out _ HB3.out)) ?_; rintro e w4 ⟨rfl, hb4⟩; obtain ⟨⟨p0, p1, p2⟩, q0, q1, q2, ⟨d0, d1, d2, f0, f1, f2⟩, HK4, HB4⟩ := HW.out _ (below_trans HX3.out hb4); clear hb4))
    exact ret_val Tryz.results12 rfl HK4.out ⟨rfl, below_set3g HB4.out (Nat.le_succ _) _ _ _⟩

theorem num_walk (k n : Int) (t : ByteArray) (w : World) (hE : Env w) : Calls Tryz.prog 12 #[val k n t] w fun e w' => e = .returned (optV (numO k n t.data.toList)) ∧ Below w.heap.size w w' := by
  unfold numO
  by_cases hm : MayL k n t.data.toList
  · rw [if_pos hm]
    rcases hm with ⟨rfl, rfl, h⟩ | ⟨rfl, h⟩ | ⟨hk, rfl, h⟩
    · obtain rfl : t = ⟨#[]⟩ := by rw [← ba_eq t, h]
      exact num_null w
    · obtain rfl : t = ⟨#[]⟩ := by rw [← ba_eq t, h]
      exact num_int n w
    · rw [if_neg (by omega), if_pos hk]
      exact num_text k hk t (by simpa using h) w hE
  · rw [if_neg hm]
    exact num_no k n t (by simp [mayB, hm]) w
end Go.Proofs.YtoekdeoekcmpgaaGreatDoor
