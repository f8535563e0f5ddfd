/- The walk of CalcIn. -/
import Derived.Test.YtoekdeoekcmpgaaGreatDoorIC
import Derived.Test.YtoekdeoekcmpgaaGreatDoorID
namespace Go.Proofs.YtoekdeoekcmpgaaGreatDoor
open Go.ChangeShapes Go.WideShapes Go.ChangeAt Go.RowKit
set_option linter.unusedVariables false

/-- Where both answer the same, the law says so. -/
theorem cin_of (k n : Int) (t : ByteArray) (v v' : Value) (c : Int) (X : Option Bool) (R : World → Prop) (w : World) (hE : Env w) (hR : R w) (hRb : ∀ V V', R V → Below V.heap.size V V' → R V')
    (hC : ∀ V, R V → Calls Tryz.prog 21 #[v] V fun e w' => ∃ v'', e = .returned v'' ∧ (∀ U, Env U → Below w'.heap.size w' U → Calls Tryz.prog 20 #[.agg #[.int .i64 k, .int .i64 n, .string t], v'', .int .i64 c] U fun e w' => e = .returned (.agg #[.int .i64 (vk X), .int .i64 (vn X), .string ⟨#[]⟩]) ∧ Below U.heap.size U w') ∧ Below V.heap.size V w')
    (hI : ∀ V, R V → Calls Tryz.prog 22 #[.agg #[.int .i64 k, .int .i64 n, .string t], v, .int .i64 c] V fun e w' => e = .returned (.agg #[.int .i64 (vk X), .int .i64 (vn X), .string ⟨#[]⟩]) ∧ Below V.heap.size V w') :
    Calls Tryz.prog 6 #[val k n t, v, .int .i64 c] w fun e w' => e = .returned (.bool true) ∧ Below w.heap.size w w' := by
  have HC := hide hC
  have HI := hide hI
  have HW : Hid (∀ V, Below (w.alloc (vcells k n t)).heap.size (w.alloc (vcells k n t)) V → V.cell? ⟨w.heap.size, 0, none⟩ = some (.int .i64 k) ∧ V.cell? ⟨w.heap.size, 1, none⟩ = some (.int .i64 n) ∧ V.cell? ⟨w.heap.size, 2, none⟩ = some (.string t)) := fun V h => by
    obtain ⟨d0, d1, d2, -⟩ := later_block w (.int .i64 k) (.int .i64 n) (.string t) 24 V h
    exact ⟨d0, d1, d2⟩
  have HD : Hid (∀ V, Below (w.alloc (vcells k n t)).drew.heap.size (w.alloc (vcells k n t)).drew V → Below (w.alloc (vcells k n t)).heap.size (w.alloc (vcells k n t)) V) := fun V h => below_trans (Below.refl _ _).drew h
  have HB : Hid (∀ V, Below (w.alloc (vcells k n t)).heap.size (w.alloc (vcells k n t)) V → Below w.heap.size w V) := fun V h => below_trans (new_below w _ rfl) h
  have HE : Hid (∀ V, Below (w.alloc (vcells k n t)).heap.size (w.alloc (vcells k n t)) V → Env V) := fun V h => hE.below (HB.out _ h)
  have HRr : Hid (∀ V, Below (w.alloc (vcells k n t)).heap.size (w.alloc (vcells k n t)) V → R V) := fun V h => hRb w V hR (HB.out _ h)
  have HED : Hid (Env (w.alloc (vcells k n t)).drew) := HE.out _ (HD.out _ (Below.refl _ _))
  clear hC hI hE hR hRb
  go_enter Tryz.func6, Tryz.ntmps6
  go_wp2
  go_region_held3 (fun V => V.cell? ⟨w.heap.size, 0, none⟩ = some (.int .i64 k) ∧ V.cell? ⟨w.heap.size, 1, none⟩ = some (.int .i64 n) ∧ V.cell? ⟨w.heap.size, 2, none⟩ = some (.string t)) (first | exact HW.out _ (HD.out _ (Below.refl _ _)) | exact HW.out _ HX3.out | exact HW.out _ HX4.out | exact HW.out _ HX5.out | exact HW.out _ HX6.out) (first
    | (go_at_call 11; with_reducible refine Calls.mono (head3_walk _ HED.out) ?_; rintro e w3 ⟨rfl, hb3⟩; have HX3 := hide (HD.out _ hb3); clear hb3)
    | (go_at_call 21; with_reducible refine Calls.mono (HC.out _ (HRr.out _ HX3.out)) ?_; rintro e w4 ⟨v4, rfl, hi4, hb4⟩; have HX4 := hide (below_trans HX3.out hb4); have HI4 := hide hi4; clear hb4 hi4)
    | (go_at_call 20; with_reducible refine Calls.mono (HI4.out _ (HE.out _ HX4.out) (Below.refl _ _)) ?_; rintro e w5 ⟨rfl, hb5⟩; have HX5 := hide (below_trans HX4.out hb5); clear hb5)
    | (go_at_call 22; with_reducible refine Calls.mono (HI.out _ (HRr.out _ HX5.out)) ?_; rintro e w6 ⟨rfl, hb6⟩; have HX6 := hide (below_trans HX5.out hb6); clear hb6))
  all_goals (try go_wp2)
  all_goals go_ret
  all_goals exact ⟨by simp, HB.out _ HX6.out⟩

set_option maxHeartbeats 1000000 in
theorem in_nil (c k n : Int) (t : ByteArray) (hm : mayB k n t = true) (w : World) (hE : Env w) :
    Calls Tryz.prog 20 #[val k n t, .slice none 0 0, .int .i64 c] w fun e w' => e = .returned (tv (some false)) ∧ Below w.heap.size w w' := by
  have HM1 : Hid (∀ V, Calls Tryz.prog 32 #[.agg #[.int .i64 k, .int .i64 n, .string t]] V fun e w' => e = .returned (.bool true) ∧ Below V.heap.size V w') := fun V => by have := may_walk k n t V; rw [hm] at this; exact this
  have HTr : Hid (∀ V, Calls Tryz.prog 52 #[.bool false] V fun e w' => e = .returned (val 1 0 ⟨#[]⟩) ∧ Below V.heap.size V w') := fun V => ktruth_walk false V
  have HW : Hid (∀ V, _ → _) := pr_later w k n t
  clear hm
  go_enter Tryz.func20, Tryz.ntmps20
  go_wp2_with (first
    | (go_at_call 32; with_reducible refine Calls.mono (HM1.out _) ?_; rintro e w1 ⟨rfl, hb1⟩; have HX1 := hide hb1; obtain ⟨⟨p0, p1, p2⟩, q0, q1, q2, ⟨d0, d1, d2, f0, f1, f2⟩, HK1, HB1⟩ := HW.out _ HX1.out; clear hb1)
    | (go_at_call 46; with_reducible refine Calls.mono (ofTwo_eq c _) ?_; rintro e w2 ⟨p, pv, rfl, hA2, hS2, hb2⟩; have HX2 := hide (below_trans HX1.out hb2); obtain ⟨⟨p0, p1, p2⟩, q0, q1, q2, ⟨d0, d1, d2, f0, f1, f2⟩, HK2, HB2⟩ := HW.out _ HX2.out; clear hb2 hA2 hS2)
    | (go_at_call 46; with_reducible refine Calls.mono (ofTwo_or c _) ?_; rintro e w3 ⟨po, rfl, hA3, hb3⟩; have HX3 := hide (below_trans HX2.out hb3); obtain ⟨⟨p0, p1, p2⟩, q0, q1, q2, ⟨d0, d1, d2, f0, f1, f2⟩, HK3, HB3⟩ := HW.out _ HX3.out; clear hb3 hA3)
    | (go_at_call 52; with_reducible refine Calls.mono (HTr.out _) ?_; rintro e w4 ⟨rfl, hb4⟩; have HX4 := hide (below_trans HX3.out hb4); clear hb4))
  obtain ⟨-, -, -, -, ⟨d0, d1, d2, f0, f1, f2⟩, HK5, HB5⟩ := HW.out _ (below_trans HX4.out (new_below w4 (vcells 1 0 ⟨#[]⟩) rfl))
  refine wp_loop_rounds 1 ?_
  rw [rounds_succ]
  go_wp2_with fail
  exact ret_valg Tryz.results20 rfl HK5.out ⟨rfl, below_set3g HB5.out (Nat.le_succ _) _ _ _⟩

set_option maxHeartbeats 1000000 in
theorem rin_nil (c k n : Int) (t : ByteArray) (hm : mayB k n t = true) (p : Option Addr) (cap : Nat) (w : World) (HC : Hid (∀ V, Below w.heap.size w V → Calls Tryz.prog 53 #[.slice p 0 cap] V fun e w' => e = .returned (.int .i64 0) ∧ Below V.heap.size V w')) :
    Calls Tryz.prog 22 #[val k n t, .slice p 0 cap, .int .i64 c] w fun e w' => e = .returned (tv (some false)) ∧ Below w.heap.size w w' := by
  have HW : Hid (∀ V, _ → _) := pr_later w k n t
  have HM1 : Hid (∀ V, Calls Tryz.prog 36 #[.agg #[.int .i64 k, .int .i64 n, .string t]] V fun e w' => e = .returned (.bool true) ∧ Below V.heap.size V w') := fun V => by have := rmay_walk k n t V; rw [hm] at this; exact this
  have HI : Hid (∀ V, Calls Tryz.prog 31 #[.int .i64 0] V fun e w' => e = .returned (val 1 0 ⟨#[]⟩) ∧ Below V.heap.size V w') := fun V => rint_walk 0 V
  have HB0 := hide (HW.out _ (Below.refl _ _)).2.2.2.2.2.2
  clear hm
  go_enter Tryz.func22, Tryz.ntmps22
  go_wp2_with (first
    | (go_at_call 53; with_reducible refine Calls.mono (HC.out _ HB0.out.out) ?_; rintro e w1 ⟨rfl, hb1⟩; have HX1 := hide hb1; obtain ⟨⟨p0, p1, p2⟩, q0, q1, q2, ⟨d0, d1, d2, f0, f1, f2⟩, HK1, HB1⟩ := HW.out _ HX1.out; clear hb1)
    | (go_at_call 36; with_reducible refine Calls.mono (HM1.out _) ?_; rintro e w5 ⟨rfl, hb5⟩; have HX5 := hide (below_trans HX1.out hb5); obtain ⟨⟨p0, p1, p2⟩, q0, q1, q2, ⟨d0, d1, d2, f0, f1, f2⟩, HK5, HB5⟩ := HW.out _ HX5.out; clear hb5)
    | (go_at_call 31; with_reducible refine Calls.mono (HI.out _) ?_; rintro e w4 ⟨rfl, hb4⟩; have HX4 := hide (below_trans HX5.out hb4); clear hb4))
  obtain ⟨-, -, -, -, ⟨d0, d1, d2, f0, f1, f2⟩, HK7, HB7⟩ := HW.out _ (below_trans HX4.out (new_below w4 (vcells 1 0 ⟨#[]⟩) rfl))
  refine wp_loop_rounds 1 ?_
  rw [rounds_succ]
  go_wp2_with fail
  exact ret_valg Tryz.results22 rfl HK7.out ⟨rfl, below_set3g HB7.out (Nat.le_succ _) _ _ _⟩

theorem below_of_eq {V w' : World} (h : V = w') : Below V.heap.size V w' := by subst h; exact Below.refl _ _

theorem cin_nil (k n : Int) (t : ByteArray) (p : Option Addr) (cap : Nat) (c : Int) (w : World) (hE : Env w)
    (hC : ∀ V, Calls Tryz.prog 21 #[.slice p 0 cap] V fun e w' => e = .returned (.slice none 0 0) ∧ V = w')
    (hK : ∀ V, Calls Tryz.prog 53 #[.slice p 0 cap] V fun e w' => e = .returned (.int .i64 0) ∧ V = w') :
    Calls Tryz.prog 6 #[val k n t, .slice p 0 cap, .int .i64 c] w fun e w' => e = .returned (.bool true) ∧ Below w.heap.size w w' := by
  have hK' : ∀ V, Calls Tryz.prog 53 #[.slice p 0 cap] V fun e w' => e = .returned (.int .i64 0) ∧ Below V.heap.size V w' := fun V => (hK V).mono fun e w' ⟨h1, h2⟩ => ⟨h1, below_of_eq h2⟩
  cases hm : mayB k n t with
  | false =>
    exact cin_of k n t _ (.slice none 0 0) c none (fun _ => True) w hE trivial (fun _ _ _ _ => trivial)
      (fun V _ => (hC V).mono fun e w' ⟨h1, h2⟩ => ⟨_, h1, fun U _ _ => in_bad c k n t hm _ U, below_of_eq h2⟩) (fun V _ => rin_bad c k n t hm _ 0 (by decide) V (fun U _ => hK' U))
  | true =>
    exact cin_of k n t _ (.slice none 0 0) c (some false) (fun _ => True) w hE trivial (fun _ _ _ _ => trivial)
      (fun V _ => (hC V).mono fun e w' ⟨h1, h2⟩ => ⟨_, h1, fun U hU _ => in_nil c k n t hm U hU, below_of_eq h2⟩) (fun V _ => rin_nil c k n t hm p cap V (fun U _ => hK' U))
theorem cin_none (k n : Int) (t : ByteArray) (c : Int) (w : World) (hE : Env w) : Calls Tryz.prog 6 #[val k n t, .slice none 0 0, .int .i64 c] w fun e w' => e = .returned (.bool true) ∧ Below w.heap.size w w' :=
  cin_nil k n t none 0 c w hE copy_none rcheck_none
theorem cin_empty (k n : Int) (t : ByteArray) (a : Addr) (cap : Nat) (c : Int) (w : World) (hE : Env w) : Calls Tryz.prog 6 #[val k n t, .slice (some a) 0 cap, .int .i64 c] w fun e w' => e = .returned (.bool true) ∧ Below w.heap.size w w' :=
  cin_nil k n t (some a) cap c w hE (copy_empty a cap) (rcheck_empty a cap)
open Classical in
theorem cin_some (k n : Int) (t : ByteArray) (b o len cap : Nat) (K N : Nat → Int) (T : Nat → ByteArray) (h0 : 0 < len) (hlen : len * 32 ≤ 140737488355328) (c : Int) (w : World) (hE : Env w) (h : RowAt w b o len K N T) :
    Calls Tryz.prog 6 #[val k n t, .slice (some ⟨b, o, none⟩) len cap, .int .i64 c] w fun e w' => e = .returned (.bool true) ∧ Below w.heap.size w w' := by
  refine cin_of k n t _ (.slice none 0 0) c (inX c k n t len K N T) (fun V => RowAt V b o len K N T) w hE h (fun V V' hV hb => hV.later hb) (fun V hV => ?_) (fun V hV => ?_)
  · refine (copy_some b o len cap K N T h0 hlen V hV).mono fun e w' ⟨g, cc, h1, h2, h3⟩ => ⟨_, h1, fun U hU hb => ?_, h3⟩
    cases hm : mayB k n t with
    | false => rw [inX_bad hm]; exact in_bad c k n t hm _ U
    | true => exact in_walk c k n t hm g 0 len cc K N T (by omega) U hU (h2.later hb)
  · by_cases hall : ∀ i, i < len → mayB (K i) (N i) (T i) = true
    · cases hm : mayB k n t with
      | false =>
        rw [inX_bad hm]
        exact rin_bad c k n t hm _ (chk len K N T) (chk_ne hall) V (fun U hU => rcheck_some b o len cap K N T (by omega) U (hV.later hU))
      | true => rw [inX_ok hm hall]; exact rin_walk c k n t hm b o len cap K N T (by omega) hall V hV
    · have hx : inX c k n t len K N T = none := if_neg (fun g => hall g.2)
      have hc : chk len K N T = 2 := if_neg hall
      rw [hx]
      exact rin_row c k n t b o len cap K N T (by omega) hc V hV
end Go.Proofs.YtoekdeoekcmpgaaGreatDoor
