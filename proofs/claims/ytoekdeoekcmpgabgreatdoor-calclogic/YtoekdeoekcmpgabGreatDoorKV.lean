/- Package calc: Apply, lent, Pair. -/
import Derived.Test.YtoekdeoekcmpgabGreatDoorKP
namespace Go.Proofs.YtoekdeoekcmpgabGreatDoor
open Go.ChangeShapes Go.WideShapes Go.ChangeAt Go.RowKit
set_option linter.unusedVariables false

theorem tm_blanks (s : ByteArray) (hs : s.size ≤ 1000) (w : World) : Calls Tryz.prog 23 #[.string s, .string ⟨#[32, 9, 10, 13]⟩] w fun e w' => e = .returned (.string ⟨(Lib.trimS s.data.toList blankL).toArray⟩) ∧ Below w.heap.size w w' :=
  Tryz.strings_Trim_laid s ⟨#[32, 9, 10, 13]⟩ w (by omega) (by decide) (ascii_of_all (by decide))
theorem trimR_le (l : List UInt8) : (Lib.trimRightS l blankL).length ≤ l.length := by
  unfold Lib.trimRightS
  have := (List.dropWhile_suffix (p := fun b => blankL.contains b) (l := l.reverse)).length_le
  simpa using this
theorem trimS_le (l : List UInt8) : (Lib.trimS l blankL).length ≤ l.length := Nat.le_trans (trimLeft_le _ _) (trimR_le l)

def textNum (t : List UInt8) : Option Int := intL (Lib.trimS t blankL)
/-- A value with an affinity. -/
def appV (f k n : Int) (t : ByteArray) : Value :=
  if mayB k n t = true then (if f = 1 ∧ k = 2 then (match textNum t.data.toList with | some m => val 1 m ⟨#[]⟩ | none => val k n t) else if f = 2 ∧ k = 1 then textV ⟨(Lib.itoa n).toArray⟩ else val k n t) else val k n t
theorem appV_val (f k n : Int) (t : ByteArray) : ∃ a b c, appV f k n t = val a b c := by
  unfold appV
  split
  · split
    · cases textNum t.data.toList with
      | none => exact ⟨_, _, _, rfl⟩
      | some m => exact ⟨_, _, _, rfl⟩
    · split
      · exact textV_val _
      · exact ⟨_, _, _, rfl⟩
  · exact ⟨_, _, _, rfl⟩

set_option maxHeartbeats 1000000 in
set_option maxRecDepth 10000 in
theorem apply_bad (f k n : Int) (t : ByteArray) (hm : mayB k n t = false) (w : World) (hE : Env w) : Calls Tryz.prog 12 #[.int .i64 f, val k n t] w fun e w' => e = .returned (val k n t) ∧ Below w.heap.size w w' := by
  have HW : Hid (∀ V, _ → _) := pr_later w k n t
  have HM : Hid (∀ V, Calls Tryz.prog 15 #[.agg #[.int .i64 k, .int .i64 n, .string t]] V fun e w' => e = .returned (.bool false) ∧ Below V.heap.size V w') := fun V => by have := may_walk k n t V; rw [hm] at this; exact this
  clear hm hE
  go_enter Tryz.func12, Tryz.ntmps12
  go_wp2_with (first
    | (go_at_call 15; with_reducible refine Calls.mono (HM.out _) ?_; rintro e w1 ⟨rfl, hb1⟩; have HX1 := hide hb1; obtain ⟨⟨p0, p1, p2⟩, q0, q1, q2, ⟨d0, d1, d2, f0, f1, f2⟩, HK1, HB1⟩ := HW.out _ HX1.out; clear hb1))
  exact ret_valg Tryz.results12 rfl HK1.out ⟨rfl, below_set3g HB1.out (Nat.le_succ _) _ _ _⟩

set_option maxHeartbeats 1000000 in
set_option maxRecDepth 10000 in
theorem apply_num (t : ByteArray) (ht : t.size ≤ 400) (m : Int) (hO : textNum t.data.toList = some m) (w : World) (hE : Env w) : Calls Tryz.prog 12 #[.int .i64 1, val 2 0 t] w fun e w' => e = .returned (val 1 m ⟨#[]⟩) ∧ Below w.heap.size w w' := by
  have HW : Hid (∀ V, _ → _) := pr_later w 2 0 t
  have HM : Hid (∀ V, Calls Tryz.prog 15 #[.agg #[.int .i64 2, .int .i64 0, .string t]] V fun e w' => e = .returned (.bool true) ∧ Below V.heap.size V w') := fun V => by have := may_walk 2 0 t V; rw [may2, decide_eq_true ht, decide_eq_true rfl] at this; exact this
  obtain ⟨u, hu⟩ : ∃ u : ByteArray, u = ⟨(Lib.trimS t.data.toList blankL).toArray⟩ := ⟨_, rfl⟩
  have hus : u.size ≤ 1000 := by
    have h := trimS_le t.data.toList
    have h2 : t.data.toList.length = t.size := by simp
    rw [hu, ba_size]; omega
  have HT : Hid (∀ V, Calls Tryz.prog 23 #[.string t, .string ⟨#[32, 9, 10, 13]⟩] V fun e w' => e = .returned (.string u) ∧ Below V.heap.size V w') := fun V => by rw [hu]; exact tm_blanks t (by omega) V
  have HE : Hid (∀ V, Below w.heap.size w V → Env V) := fun V h => hE.below h
  have HN : Hid (∀ V, Env V → Calls Tryz.prog 22 #[.string u] V fun e w' => e = .returned (.agg #[.int .i64 1, .int .i64 m, .string ⟨#[]⟩]) ∧ Below V.heap.size V w') := fun V hV => by
    have := knumber_walk u hus V hV
    have e1 : intL u.data.toList = textNum t.data.toList := by unfold textNum; rw [hu]
    rw [e1, hO] at this
    exact this
  clear hO hu hus ht hE
  go_enter Tryz.func12, Tryz.ntmps12
  go_wp2_with (first
    | (go_at_call 15; with_reducible refine Calls.mono (HM.out _) ?_; rintro e w1 ⟨rfl, hb1⟩; have HX1 := hide hb1; obtain ⟨⟨p0, p1, p2⟩, q0, q1, q2, ⟨d0, d1, d2, f0, f1, f2⟩, HK1, HB1⟩ := HW.out _ HX1.out; clear hb1)
    | (go_at_call 23; with_reducible refine Calls.mono (HT.out _) ?_; rintro e w2 ⟨rfl, hb2⟩; have HX2 := hide (below_trans HX1.out hb2); obtain ⟨⟨p0, p1, p2⟩, q0, q1, q2, ⟨d0, d1, d2, f0, f1, f2⟩, HK2, HB2⟩ := HW.out _ HX2.out; clear hb2)
    | (go_at_call 22; with_reducible refine Calls.mono (HN.out _ (HE.out _ HB2.out)) ?_; rintro e w3 ⟨rfl, hb3⟩; have HX3 := hide (below_trans (below_trans HX2.out hb3) (new_below w3 (vcells 1 m ⟨#[]⟩) rfl)); obtain ⟨⟨p0, p1, p2⟩, q0, q1, q2, ⟨d0, d1, d2, f0, f1, f2⟩, HK3, HB3⟩ := HW.out _ HX3.out; clear hb3))
  exact ret_valg Tryz.results12 rfl HK3.out ⟨rfl, below_set3g HB3.out (Nat.le_succ _) _ _ _⟩

set_option maxHeartbeats 1000000 in
set_option maxRecDepth 10000 in
theorem apply_nonum (t : ByteArray) (ht : t.size ≤ 400) (hO : textNum t.data.toList = none) (w : World) (hE : Env w) : Calls Tryz.prog 12 #[.int .i64 1, val 2 0 t] w fun e w' => e = .returned (val 2 0 t) ∧ Below w.heap.size w w' := by
  have HW : Hid (∀ V, _ → _) := pr_later w 2 0 t
  have HM : Hid (∀ V, Calls Tryz.prog 15 #[.agg #[.int .i64 2, .int .i64 0, .string t]] V fun e w' => e = .returned (.bool true) ∧ Below V.heap.size V w') := fun V => by have := may_walk 2 0 t V; rw [may2, decide_eq_true ht, decide_eq_true rfl] at this; exact this
  obtain ⟨u, hu⟩ : ∃ u : ByteArray, u = ⟨(Lib.trimS t.data.toList blankL).toArray⟩ := ⟨_, rfl⟩
  have hus : u.size ≤ 1000 := by
    have h := trimS_le t.data.toList
    have h2 : t.data.toList.length = t.size := by simp
    rw [hu, ba_size]; omega
  have HT : Hid (∀ V, Calls Tryz.prog 23 #[.string t, .string ⟨#[32, 9, 10, 13]⟩] V fun e w' => e = .returned (.string u) ∧ Below V.heap.size V w') := fun V => by rw [hu]; exact tm_blanks t (by omega) V
  have HE : Hid (∀ V, Below w.heap.size w V → Env V) := fun V h => hE.below h
  have HN : Hid (∀ V, Env V → Calls Tryz.prog 22 #[.string u] V fun e w' => e = .returned (.agg #[.int .i64 0, .int .i64 0, .string ⟨#[]⟩]) ∧ Below V.heap.size V w') := fun V hV => by
    have := knumber_walk u hus V hV
    have e1 : intL u.data.toList = textNum t.data.toList := by unfold textNum; rw [hu]
    rw [e1, hO] at this
    exact this
  clear hO hu hus ht hE
  go_enter Tryz.func12, Tryz.ntmps12
  go_wp2_with (first
    | (go_at_call 15; with_reducible refine Calls.mono (HM.out _) ?_; rintro e w1 ⟨rfl, hb1⟩; have HX1 := hide hb1; obtain ⟨⟨p0, p1, p2⟩, q0, q1, q2, ⟨d0, d1, d2, f0, f1, f2⟩, HK1, HB1⟩ := HW.out _ HX1.out; clear hb1)
    | (go_at_call 23; with_reducible refine Calls.mono (HT.out _) ?_; rintro e w2 ⟨rfl, hb2⟩; have HX2 := hide (below_trans HX1.out hb2); obtain ⟨⟨p0, p1, p2⟩, q0, q1, q2, ⟨d0, d1, d2, f0, f1, f2⟩, HK2, HB2⟩ := HW.out _ HX2.out; clear hb2)
    | (go_at_call 22; with_reducible refine Calls.mono (HN.out _ (HE.out _ HB2.out)) ?_; rintro e w3 ⟨rfl, hb3⟩; have HX3 := hide (below_trans (below_trans HX2.out hb3) (new_below w3 (vcells 0 0 ⟨#[]⟩) rfl)); obtain ⟨⟨p0, p1, p2⟩, q0, q1, q2, ⟨d0, d1, d2, f0, f1, f2⟩, HK3, HB3⟩ := HW.out _ HX3.out; clear hb3))
  exact ret_valg Tryz.results12 rfl HK3.out ⟨rfl, below_set3g HB3.out (Nat.le_succ _) _ _ _⟩

set_option maxHeartbeats 1000000 in
set_option maxRecDepth 10000 in
theorem apply_show (n : Int) (h0 : -9223372036854775808 ≤ n) (h1 : n ≤ 9223372036854775807) (w : World) (hE : Env w) : Calls Tryz.prog 12 #[.int .i64 2, val 1 n ⟨#[]⟩] w fun e w' => e = .returned (textV ⟨(Lib.itoa n).toArray⟩) ∧ Below w.heap.size w w' := by
  have HW : Hid (∀ V, _ → _) := pr_later w 1 n ⟨#[]⟩
  have HM : Hid (∀ V, Calls Tryz.prog 15 #[.agg #[.int .i64 1, .int .i64 n, .string ⟨#[]⟩]] V fun e w' => e = .returned (.bool true) ∧ Below V.heap.size V w') := fun V => may_walk 1 n ⟨#[]⟩ V
  obtain ⟨c1, c2, c3, hc⟩ := textV_val ⟨(Lib.itoa n).toArray⟩
  have HE : Hid (∀ V, Below w.heap.size w V → Env V) := fun V h => hE.below h
  have HS : Hid (∀ V, Env V → Calls Tryz.prog 20 #[.agg #[.int .i64 1, .int .i64 n, .string ⟨#[]⟩]] V fun e w' => e = .returned (val c1 c2 c3) ∧ Below V.heap.size V w') := fun V hV => by rw [← hc]; exact show_int n h0 h1 V hV
  rw [hc]
  clear hc hE
  go_enter Tryz.func12, Tryz.ntmps12
  go_wp2_with (first
    | (go_at_call 15; with_reducible refine Calls.mono (HM.out _) ?_; rintro e w1 ⟨rfl, hb1⟩; have HX1 := hide hb1; obtain ⟨⟨p0, p1, p2⟩, q0, q1, q2, ⟨d0, d1, d2, f0, f1, f2⟩, HK1, HB1⟩ := HW.out _ HX1.out; clear hb1)
    | (go_at_call 20; with_reducible refine Calls.mono (HS.out _ (HE.out _ HB1.out)) ?_; rintro e w3 ⟨rfl, hb3⟩; have HX3 := hide (below_trans HX1.out hb3); obtain ⟨⟨p0, p1, p2⟩, q0, q1, q2, ⟨d0, d1, d2, f0, f1, f2⟩, HK3, HB3⟩ := HW.out _ HX3.out; clear hb3))
  exact ret_valg Tryz.results12 rfl HK3.out ⟨rfl, below_set3g HB3.out (Nat.le_succ _) _ _ _⟩

set_option maxHeartbeats 1000000 in
set_option maxRecDepth 10000 in
theorem apply_e1 (k n : Int) (t : ByteArray) (hm : mayB k n t = true) (hk : k ≠ 2) (w : World) (hE : Env w) : Calls Tryz.prog 12 #[.int .i64 1, val k n t] w fun e w' => e = .returned (val k n t) ∧ Below w.heap.size w w' := by
  have HW : Hid (∀ V, _ → _) := pr_later w k n t
  have HM : Hid (∀ V, Calls Tryz.prog 15 #[.agg #[.int .i64 k, .int .i64 n, .string t]] V fun e w' => e = .returned (.bool true) ∧ Below V.heap.size V w') := fun V => by have := may_walk k n t V; rw [hm] at this; exact this
  have e2 : (k == 2) = false := by simpa using hk
  clear hm hE hk
  go_enter Tryz.func12, Tryz.ntmps12
  go_wp2_with (first
    | (go_at_call 15; with_reducible refine Calls.mono (HM.out _) ?_; rintro e w1 ⟨rfl, hb1⟩; have HX1 := hide hb1; obtain ⟨⟨p0, p1, p2⟩, q0, q1, q2, ⟨d0, d1, d2, f0, f1, f2⟩, HK1, HB1⟩ := HW.out _ HX1.out; clear hb1))
  exact ret_valg Tryz.results12 rfl HK1.out ⟨rfl, below_set3g HB1.out (Nat.le_succ _) _ _ _⟩

set_option maxHeartbeats 1000000 in
set_option maxRecDepth 10000 in
theorem apply_e2 (k n : Int) (t : ByteArray) (hm : mayB k n t = true) (hk : k ≠ 1) (w : World) (hE : Env w) : Calls Tryz.prog 12 #[.int .i64 2, val k n t] w fun e w' => e = .returned (val k n t) ∧ Below w.heap.size w w' := by
  have HW : Hid (∀ V, _ → _) := pr_later w k n t
  have HM : Hid (∀ V, Calls Tryz.prog 15 #[.agg #[.int .i64 k, .int .i64 n, .string t]] V fun e w' => e = .returned (.bool true) ∧ Below V.heap.size V w') := fun V => by have := may_walk k n t V; rw [hm] at this; exact this
  have e2 : (k == 1) = false := by simpa using hk
  clear hm hE hk
  go_enter Tryz.func12, Tryz.ntmps12
  go_wp2_with (first
    | (go_at_call 15; with_reducible refine Calls.mono (HM.out _) ?_; rintro e w1 ⟨rfl, hb1⟩; have HX1 := hide hb1; obtain ⟨⟨p0, p1, p2⟩, q0, q1, q2, ⟨d0, d1, d2, f0, f1, f2⟩, HK1, HB1⟩ := HW.out _ HX1.out; clear hb1))
  exact ret_valg Tryz.results12 rfl HK1.out ⟨rfl, below_set3g HB1.out (Nat.le_succ _) _ _ _⟩

set_option maxHeartbeats 1000000 in
set_option maxRecDepth 10000 in
theorem apply_e3 (f k n : Int) (t : ByteArray) (hm : mayB k n t = true) (h1 : f ≠ 1) (h2 : f ≠ 2) (w : World) (hE : Env w) : Calls Tryz.prog 12 #[.int .i64 f, val k n t] w fun e w' => e = .returned (val k n t) ∧ Below w.heap.size w w' := by
  have HW : Hid (∀ V, _ → _) := pr_later w k n t
  have HM : Hid (∀ V, Calls Tryz.prog 15 #[.agg #[.int .i64 k, .int .i64 n, .string t]] V fun e w' => e = .returned (.bool true) ∧ Below V.heap.size V w') := fun V => by have := may_walk k n t V; rw [hm] at this; exact this
  have e1 : (f == 1) = false := by simpa using h1
  have e2 : (f == 2) = false := by simpa using h2
  clear hm hE h1 h2
  go_enter Tryz.func12, Tryz.ntmps12
  go_wp2_with (first
    | (go_at_call 15; with_reducible refine Calls.mono (HM.out _) ?_; rintro e w1 ⟨rfl, hb1⟩; have HX1 := hide hb1; obtain ⟨⟨p0, p1, p2⟩, q0, q1, q2, ⟨d0, d1, d2, f0, f1, f2⟩, HK1, HB1⟩ := HW.out _ HX1.out; clear hb1))
  exact ret_valg Tryz.results12 rfl HK1.out ⟨rfl, below_set3g HB1.out (Nat.le_succ _) _ _ _⟩

theorem may_forms {k n : Int} {t : ByteArray} (h : mayB k n t = true) : (k = 2 → n = 0 ∧ t.size ≤ 400) ∧ (k = 1 → t = ⟨#[]⟩) := by
  have h := of_decide_eq_true h
  unfold MayL at h
  have hl : t.data.toList.length = t.size := by simp
  refine ⟨fun e => by omega, fun e => ?_⟩
  have : t.data.toList = [] := by rcases h with h | h | h; omega; exact h.2; omega
  rw [← ba_eq t, this]

theorem apply_walk (f k n : Int) (t : ByteArray) (h0 : -9223372036854775808 ≤ n) (h1 : n ≤ 9223372036854775807) (w : World) (hE : Env w) : Calls Tryz.prog 12 #[.int .i64 f, val k n t] w fun e w' => e = .returned (appV f k n t) ∧ Below w.heap.size w w' := by
  unfold appV
  by_cases hm : mayB k n t = true
  · rw [if_pos hm]
    obtain ⟨g2, g1⟩ := may_forms hm
    by_cases c1 : f = 1 ∧ k = 2
    · rw [if_pos c1]
      obtain ⟨rfl, rfl⟩ := c1
      obtain ⟨rfl, ht⟩ := g2 rfl
      cases hO : textNum t.data.toList with
      | none => exact apply_nonum t ht hO w hE
      | some m => exact apply_num t ht m hO w hE
    · rw [if_neg c1]
      by_cases c2 : f = 2 ∧ k = 1
      · rw [if_pos c2]
        obtain ⟨rfl, rfl⟩ := c2
        obtain rfl := g1 rfl
        exact apply_show n h0 h1 w hE
      · rw [if_neg c2]
        by_cases f1 : f = 1
        · subst f1; exact apply_e1 k n t hm (fun e => c1 ⟨rfl, e⟩) w hE
        by_cases f2 : f = 2
        · subst f2; exact apply_e2 k n t hm (fun e => c2 ⟨rfl, e⟩) w hE
        exact apply_e3 f k n t hm f1 f2 w hE
  · rw [if_neg hm]
    exact apply_bad f k n t (by simpa using hm) w hE

end Go.Proofs.YtoekdeoekcmpgabGreatDoor
