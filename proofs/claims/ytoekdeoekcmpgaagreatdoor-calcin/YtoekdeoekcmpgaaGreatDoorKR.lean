/- Package calc: Unary. -/
import Derived.Test.YtoekdeoekcmpgaaGreatDoorKP
namespace Go.Proofs.YtoekdeoekcmpgaaGreatDoor
open Go.ChangeShapes Go.WideShapes Go.ChangeAt Go.RowKit
set_option linter.unusedVariables false

def negO (o : Option Int) : Option Int := match o with | some x => difO 0 x | none => none
def notO (o : Option Int) : Option Int := match o with | some m => some (if m = 0 then 1 else 0) | none => none

set_option maxHeartbeats 1000000 in
set_option maxRecDepth 10000 in
theorem not_walk (k n : Int) (t : ByteArray) (w : World) (hE : Env w) : Calls Tryz.prog 76 #[val k n t] w fun e w' => e = .returned (optV (notO (numO k n t.data.toList))) ∧ Below w.heap.size w w' := by
  have HTr : Hid (∀ V, Calls Tryz.prog 52 #[.bool true] V fun e w' => e = .returned (.agg #[.int .i64 1, .int .i64 1, .string ⟨#[]⟩]) ∧ Below V.heap.size V w') := fun V => ktruth_walk true V
  have HTf : Hid (∀ V, Calls Tryz.prog 52 #[.bool false] V fun e w' => e = .returned (.agg #[.int .i64 1, .int .i64 0, .string ⟨#[]⟩]) ∧ Below V.heap.size V w') := fun V => ktruth_walk false V
  have HT : Hid (∀ V, Env V → Calls Tryz.prog 9 #[.agg #[.int .i64 k, .int .i64 n, .string t]] V fun e w' => e = .returned (truthB (numO k n t.data.toList)) ∧ Below V.heap.size V w') := fun V hV => truth2_walk k n t V hV
  have HW : Hid (∀ V, _ → _) := pr_later w k n t
  have HE0 : Hid (Env ((w.alloc (vcells k n t)).alloc nilcells)) := hE.below (below_trans (new_below w _ rfl) (new_below _ _ rfl))
  generalize numO k n t.data.toList = o at HT ⊢
  clear hE
  cases o with
  | none =>
    dsimp only [truthB] at HT
    go_enter Tryz.func76, Tryz.ntmps76
    go_wp2_with (first
      | (go_at_call 9; with_reducible refine Calls.mono (HT.out _ HE0.out) ?_; rintro e w1 ⟨rfl, hb1⟩; obtain ⟨⟨p0, p1, p2⟩, q0, q1, q2, ⟨d0, d1, d2, f0, f1, f2⟩, HK1, HB1⟩ := HW.out _ hb1; clear hb1))
    exact ret_valg Tryz.results76 rfl HK1.out ⟨rfl, below_set3g HB1.out (Nat.le_succ _) _ _ _⟩
  | some m =>
    dsimp only [notO]
    by_cases hm : m = 0
    · rw [if_pos hm]
      have HT2 : Hid (∀ V, Env V → Calls Tryz.prog 9 #[.agg #[.int .i64 k, .int .i64 n, .string t]] V fun e w' => e = .returned (.tuple #[.bool false, .bool true]) ∧ Below V.heap.size V w') := fun V hV => by have := HT.out V hV; rw [hm] at this; exact this
      clear hm HT
      go_enter Tryz.func76, Tryz.ntmps76
      go_wp2_with (first
        | (go_at_call 9; with_reducible refine Calls.mono (HT2.out _ HE0.out) ?_; rintro e w1 ⟨rfl, hb1⟩; have HX1 := hide hb1; obtain ⟨⟨p0, p1, p2⟩, q0, q1, q2, ⟨d0, d1, d2, f0, f1, f2⟩, HK1, HB1⟩ := HW.out _ hb1; clear hb1)
        | (go_at_call 52; with_reducible refine Calls.mono (HTr.out _) ?_; rintro e w2 ⟨rfl, hb2⟩; obtain ⟨⟨p0, p1, p2⟩, q0, q1, q2, ⟨d0, d1, d2, f0, f1, f2⟩, HK2, HB2⟩ := HW.out _ (below_trans HX1.out hb2); clear hb2))
      exact ret_valg Tryz.results76 rfl HK2.out ⟨rfl, below_set3g HB2.out (Nat.le_succ _) _ _ _⟩
    · rw [if_neg hm]
      have HT2 : Hid (∀ V, Env V → Calls Tryz.prog 9 #[.agg #[.int .i64 k, .int .i64 n, .string t]] V fun e w' => e = .returned (.tuple #[.bool true, .bool true]) ∧ Below V.heap.size V w') := fun V hV => by have := HT.out V hV; simp only [truthB, decide_eq_true hm] at this; exact this
      clear hm HT
      go_enter Tryz.func76, Tryz.ntmps76
      go_wp2_with (first
        | (go_at_call 9; with_reducible refine Calls.mono (HT2.out _ HE0.out) ?_; rintro e w1 ⟨rfl, hb1⟩; have HX1 := hide hb1; obtain ⟨⟨p0, p1, p2⟩, q0, q1, q2, ⟨d0, d1, d2, f0, f1, f2⟩, HK1, HB1⟩ := HW.out _ hb1; clear hb1)
        | (go_at_call 52; with_reducible refine Calls.mono (HTf.out _) ?_; rintro e w2 ⟨rfl, hb2⟩; obtain ⟨⟨p0, p1, p2⟩, q0, q1, q2, ⟨d0, d1, d2, f0, f1, f2⟩, HK2, HB2⟩ := HW.out _ (below_trans HX1.out hb2); clear hb2))
      exact ret_valg Tryz.results76 rfl HK2.out ⟨rfl, below_set3g HB2.out (Nat.le_succ _) _ _ _⟩

set_option maxHeartbeats 1000000 in
set_option maxRecDepth 10000 in
theorem plus_walk (k n : Int) (t : ByteArray) (w : World) : Calls Tryz.prog 75 #[val k n t] w fun e w' => e = .returned (val k n t) ∧ Below w.heap.size w w' := by
  go_enter Tryz.func75, Tryz.ntmps75
  go_wp2
  go_returns
  exact ⟨rfl, by go_grown⟩

/-- What ofOne hands back for the sign. -/
def NegFn (w : World) (p : Nat) : Prop := ∃ p2 : Nat, w.cell? ⟨p, 0, none⟩ = some (.func (.func 109) #[] #[.pointer (some ⟨p2, 0, none⟩)]) ∧ ArFn w p2 73
theorem NegFn.below {w w' : World} {p : Nat} (h : NegFn w p) (b : Below w.heap.size w w') : NegFn w' p := by
  obtain ⟨p2, h1, h2⟩ := h
  exact ⟨p2, cell_later b h1, h2.below b⟩

set_option maxHeartbeats 1000000 in
theorem ofOne_neg (w : World) : Calls Tryz.prog 44 #[.int .i64 4] w fun e w' => ∃ p : Nat, e = .returned (.func (.func 74) #[] #[.pointer (some ⟨p, 0, none⟩)]) ∧ NegFn w' p ∧ Below w.heap.size w w' := by
  have hmf : ∀ (fn : Fn) (first cap : Array Value) (w : World), (Instr.makeFunc fn first cap).run Tryz.prog w = .ok (.func fn first cap) w := fun _ _ _ _ => rfl
  go_enter Tryz.func44, Tryz.ntmps44
  go_wp2_with (first
    | (go_at_call 72; with_reducible refine Calls.mono (onNumbers_walk 73 _) ?_; rintro e w1 ⟨p2, rfl, hA, hb1⟩; have HA := hide hA; have HB1 := hide hb1; clear hA hb1))
  go_ret
  exact ⟨_, rfl, ⟨p2, new_cells w1 _ _ rfl 0 _ rfl, HA.out.below (new_below w1 _ rfl)⟩, below_trans HB1.out (new_below w1 _ rfl)⟩
set_option maxHeartbeats 1000000 in
theorem ofOne_plus (w : World) : Calls Tryz.prog 44 #[.int .i64 5] w fun e w' => e = .returned (.func (.func 75) #[] #[]) ∧ w = w' := by
  have hmf : ∀ (fn : Fn) (first cap : Array Value) (w : World), (Instr.makeFunc fn first cap).run Tryz.prog w = .ok (.func fn first cap) w := fun _ _ _ _ => rfl
  go_enter Tryz.func44, Tryz.ntmps44
  go_wp2
  go_ret
  exact ⟨rfl, rfl⟩
set_option maxHeartbeats 1000000 in
theorem ofOne_not (w : World) : Calls Tryz.prog 44 #[.int .i64 6] w fun e w' => e = .returned (.func (.func 76) #[] #[]) ∧ w = w' := by
  go_enter Tryz.func44, Tryz.ntmps44
  go_wp2
  go_ret
  exact ⟨rfl, rfl⟩
set_option maxHeartbeats 1000000 in
theorem ofOne_none (op : Int) (h4 : op ≠ 4) (h5 : op ≠ 5) (h6 : op ≠ 6) (w : World) : Calls Tryz.prog 44 #[.int .i64 op] w fun e w' => e = .returned .nilFunc ∧ w = w' := by
  have e4 : (op == 4) = false := by simpa using h4
  have e5 : (op == 5) = false := by simpa using h5
  have e6 : (op == 6) = false := by simpa using h6
  clear h4 h5 h6
  go_enter Tryz.func44, Tryz.ntmps44
  go_wp2
  go_ret
  exact ⟨rfl, rfl⟩

set_option maxHeartbeats 1000000 in
set_option maxRecDepth 10000 in
theorem neg_walk (k n : Int) (t : ByteArray) (hR : ∀ x, numO k n t.data.toList = some x → inR x) (p : Nat) (w : World) (hE : Env w) (hN : NegFn w p) : Calls Tryz.prog 74 #[val k n t, .pointer (some ⟨p, 0, none⟩)] w fun e w' => e = .returned (optV (negO (numO k n t.data.toList))) ∧ Below w.heap.size w w' := by
  obtain ⟨p2, h1, hA⟩ := hN
  have HW : Hid (∀ V, _ → _) := pr_later w k n t
  obtain ⟨c1, c2, c3, hc⟩ := optV_val (negO (numO k n t.data.toList))
  have HC : Hid (∀ V, Env V → ArFn V p2 73 → Calls Tryz.prog 109 #[.agg #[.int .i64 1, .int .i64 0, .string ⟨#[]⟩], .agg #[.int .i64 k, .int .i64 n, .string t], .pointer (some ⟨p2, 0, none⟩)] V fun e w' => e = .returned (val c1 c2 c3) ∧ Below V.heap.size V w') := fun V hV hA => by
    have := clo2_walk difO 73 1 0 ⟨#[]⟩ k n t (fun x y hx hy p V hc => by
      rw [num_of_int] at hx
      obtain rfl := Option.some.inj hx
      exact clo1_dif _ _ _ (fun V => dif_walk _ _ (by unfold inR; omega) (hR y hy) V) p V hc) p2 V hV hA
    rw [num_of_int] at this
    have e : arO difO (some 0) (numO k n t.data.toList) = negO (numO k n t.data.toList) := by cases numO k n t.data.toList <;> rfl
    rw [e, hc] at this
    exact this
  rw [hc]
  have HE : Hid (∀ V, Below w.heap.size w V → Env V) := fun V h => hE.below h
  have HA : Hid (∀ V, Below w.heap.size w V → ArFn V p2 73) := fun V h => hA.below h
  have HB0 : Hid (Below w.heap.size w ((w.alloc (vcells k n t)).alloc nilcells)) := below_trans (new_below w _ rfl) (new_below _ _ rfl)
  have hlt := lt_of_cell h1
  have HS : Hid (∀ V, Below (w.heap.size + 1) ((w.alloc (vcells k n t)).alloc nilcells) V → V.cell? ⟨p, 0, none⟩ = some (.func (.func 109) #[] #[.pointer (some ⟨p2, 0, none⟩)]) ∧ V.cell? ⟨w.heap.size, 0, none⟩ = some (.int .i64 k) ∧ V.cell? ⟨w.heap.size, 1, none⟩ = some (.int .i64 n) ∧ V.cell? ⟨w.heap.size, 2, none⟩ = some (.string t)) := fun V h => by
    obtain ⟨⟨p0, p1, p2'⟩, _⟩ := pr_later w k n t _ (Below.refl _ _)
    exact ⟨(h.cell (by show p < _; have : p < w.heap.size := hlt; omega)).trans (cell_later HB0.out h1), (h.cell (by show w.heap.size < _; omega)).trans p0, (h.cell (by show w.heap.size < _; omega)).trans p1, (h.cell (by show w.heap.size < _; omega)).trans p2'⟩
  have HG : Hid (∀ V, Below ((w.alloc (vcells k n t)).alloc nilcells).heap.size ((w.alloc (vcells k n t)).alloc nilcells) V → Below (w.heap.size + 1) ((w.alloc (vcells k n t)).alloc nilcells) V) := fun V h => h.mono (by simp)
  have HD : Hid (∀ V, Below ((w.alloc (vcells k n t)).alloc nilcells).drew.heap.size ((w.alloc (vcells k n t)).alloc nilcells).drew V → Below ((w.alloc (vcells k n t)).alloc nilcells).heap.size ((w.alloc (vcells k n t)).alloc nilcells) V) := fun V h => below_trans (Below.refl _ _).drew h
  have hc0 := cell_later HB0.out h1
  clear hc hE hA h1 hlt
  go_enter Tryz.func74, Tryz.ntmps74
  go_wp2_with fail
  go_region_held3 (fun V => V.cell? ⟨p, 0, none⟩ = some (.func (.func 109) #[] #[.pointer (some ⟨p2, 0, none⟩)]) ∧ V.cell? ⟨w.heap.size, 0, none⟩ = some (.int .i64 k) ∧ V.cell? ⟨w.heap.size, 1, none⟩ = some (.int .i64 n) ∧ V.cell? ⟨w.heap.size, 2, none⟩ = some (.string t)) (first | exact HS.out _ (HG.out _ (Below.refl _ _).drew) | exact HS.out _ (HG.out _ HX1.out) | exact HS.out _ (HG.out _ HX2.out) | exact HS.out _ ((((HG.out _ HX2.out).setCell (Nat.le_refl _) _).setCell (Nat.le_refl _) _).setCell (Nat.le_refl _) _)) (first
    | (go_at_call 60; with_reducible refine Calls.mono (int_walk _ _) ?_; rintro e w1 ⟨rfl, hb1⟩; have HX1 := hide (HD.out _ hb1); obtain ⟨-, -, -, -, ⟨d0, d1, d2, f0, f1, f2⟩, HK1, HB1⟩ := HW.out _ HX1.out; clear hb1)
    | (go_at_call 109; with_reducible refine Calls.mono (HC.out _ (HE.out _ HB1.out) (HA.out _ HB1.out)) ?_; rintro e w2 ⟨rfl, hb2⟩; have HX2 := hide (below_trans HX1.out hb2); obtain ⟨-, -, -, -, ⟨d0, d1, d2, f0, f1, f2⟩, HK2, HB2⟩ := HW.out _ HX2.out; clear hb2))
  all_goals (try go_wp2)
  all_goals exact ret_valg Tryz.results74 rfl HK2.out ⟨rfl, below_set3g HB2.out (Nat.le_succ _) _ _ _⟩
end Go.Proofs.YtoekdeoekcmpgaaGreatDoor
