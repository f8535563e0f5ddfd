/- The document's Read. -/
import Derived.Test.YtghemaghbpekfaaDoorRZ
namespace Go.Proofs.YtghemaghbpekfaaDoor
open Go.ChangeShapes Go.WideShapes Go.ChangeAt Go.RowKit
set_option linter.unusedVariables false

theorem ret_any {V : World} {g : Nat} {fn : Func} (hres : fn.results = #[.cell 2 31, .tmp 3]) {tmps : Array Value} (ht : tmps.getD 2 undef = .pointer (some ⟨g, 0, none⟩)) {u : Value} (hu : tmps.getD 3 undef = u)
    {a b c : Value} (hb : V.heap[g]? = some (.cells #[a, b, c] 31 (0, 0))) {R : Ending → World → Prop} (h : R (.returned (.tuple #[.agg #[a, b, c], u])) V) :
    bodyPost Tryd.prog fn R Exit.ret { tmps := tmps, defers := [] } V := by
  have hl := run_loadVar_row (P := Tryd.prog) V g 31 31 #[a, b, c] (0, 0) _ hb Tryd.underlying31 rfl infoV
  refine bodyPost_ret (v := .tuple #[.agg #[a, b, c], u]) ?_ rfl h
  have ht' : tmps[2]?.getD undef = .pointer (some ⟨g, 0, none⟩) := by simpa using ht
  have hu' : tmps[3]?.getD undef = u := by simpa using hu
  simp [results, hres, ht', hu', asAddr, hl]

theorem res_later (w : World) (V : World) (h : Below (w.alloc (.cells #[.int .i64 0, .int .i64 0, .string ⟨#[]⟩] 31)).heap.size (w.alloc (.cells #[.int .i64 0, .int .i64 0, .string ⟨#[]⟩] 31)) V) :
    V.cell? ⟨w.heap.size, 0, none⟩ = some (.int .i64 0) ∧ V.cell? ⟨w.heap.size, 1, none⟩ = some (.int .i64 0) ∧ V.cell? ⟨w.heap.size, 2, none⟩ = some (.string ⟨#[]⟩) ∧ V.frozen? ⟨w.heap.size, 0, none⟩ = false ∧ V.frozen? ⟨w.heap.size, 1, none⟩ = false ∧ V.frozen? ⟨w.heap.size, 2, none⟩ = false ∧
    (∀ o, (V.alloc o).cell? ⟨w.heap.size, 0, none⟩ = some (.int .i64 0)) ∧ (∀ o, (V.alloc o).cell? ⟨w.heap.size, 1, none⟩ = some (.int .i64 0)) ∧ (∀ o, (V.alloc o).cell? ⟨w.heap.size, 2, none⟩ = some (.string ⟨#[]⟩)) ∧ (∀ o, (V.alloc o).frozen? ⟨w.heap.size, 0, none⟩ = false) ∧ (∀ o, (V.alloc o).frozen? ⟨w.heap.size, 1, none⟩ = false) ∧ (∀ o, (V.alloc o).frozen? ⟨w.heap.size, 2, none⟩ = false) ∧
    Hid (V.heap[w.heap.size]? = some (.cells #[.int .i64 0, .int .i64 0, .string ⟨#[]⟩] 31 (0, 0))) ∧ Hid (Below w.heap.size w V) ∧ Hid (w.heap.size < V.heap.size) := by
  have hR := res_block w _ _ _ _ h
  obtain ⟨d0, d1, d2, f0, f1, f2⟩ := res_facts hR
  have hA : ∀ o, (V.alloc o).heap[w.heap.size]? = some (.cells #[.int .i64 0, .int .i64 0, .string ⟨#[]⟩] 31 (0, 0)) := fun o => (Below.heap_alloc _ _ _ (Array.getElem?_eq_some_iff.1 hR).1).trans hR
  exact ⟨d0, d1, d2, f0, f1, f2, fun o => (res_facts (hA o)).1, fun o => (res_facts (hA o)).2.1, fun o => (res_facts (hA o)).2.2.1, fun o => block_frozen (hA o) 0, fun o => block_frozen (hA o) 1, fun o => block_frozen (hA o) 2, hR, below_trans (new_below w _ rfl) h, (Array.getElem?_eq_some_iff.1 hR).1⟩

set_option maxHeartbeats 2000000 in
set_option maxRecDepth 10000 in
theorem rread_num (s : ByteArray) (hs : s.size ≤ 1000) (hnull : s.data.toList ≠ nullL) (m : Int) (hm : numR s.data.toList = some m) (w : World) : Calls Tryd.prog 19 #[.string s] w fun e w' => e = .returned (.tuple #[val 1 m ⟨#[]⟩, .int .i64 0]) ∧ Below w.heap.size w w' := by
  have h1 : ¬ (1000 : Int) < (s.size : Int) := by omega
  have hne : (s.toList == [78, 85, 76, 76]) = false := by rw [ByteArray.toList_eq]; simpa [nullL] using hnull
  have HN : Hid (∀ V, Calls Tryd.prog 26 #[.string s] V fun e w' => e = .returned (.tuple #[.int .i64 m, .bool true]) ∧ Below V.heap.size V w') := fun V => by have := number_walk s hs V; rw [hm] at this; exact this
  have HW : Hid (∀ V, _ → _) := res_later w
  clear hm
  go_enter Tryd.func19, Tryd.ntmps19
  go_wp2_with (first
    | (go_at_call 26; with_reducible refine Calls.mono (HN.out _) ?_; rintro e w1 ⟨rfl, hb1⟩; obtain ⟨d0, d1, d2, f0, f1, f2, a0, a1, a2, b0, b1, b2, HK1, HB1, HL1⟩ := HW.out _ hb1; clear hb1))
  exact ret_val2 Tryd.results19 rfl rfl HK1.out ⟨rfl, below_set3 HB1.out _ _ _⟩

theorem set3_alloc {w2 : World} {g : Nat} {x y z : Value} {T : TypeId} (hb : w2.heap[g]? = some (.cells #[x, y, z] T (0, 0))) (a b c : Value) (o : Obj) :
    ((((w2.setCell ⟨g, 0, none⟩ a).setCell ⟨g, 1, none⟩ b).setCell ⟨g, 2, none⟩ c).alloc o).heap[g]? = some (.cells #[a, b, c] T (0, 0)) := by
  have hs := set_block (set_block (set_block hb 0 a) 1 b) 2 c
  rw [Below.heap_alloc _ _ _ (Array.getElem?_eq_some_iff.1 hs).1]
  simpa using hs
theorem below_set3_alloc {w w2 : World} (h : Below w.heap.size w w2) (a b c : Value) (o : Obj) : Below w.heap.size w ((((w2.setCell ⟨w.heap.size, 0, none⟩ a).setCell ⟨w.heap.size, 1, none⟩ b).setCell ⟨w.heap.size, 2, none⟩ c).alloc o) :=
  (below_set3 h a b c).alloc (below_set3 h a b c).size _

def readV (k : Int) (o : Option (List UInt8)) : Value := match o with | some b => if b.length ≤ 400 then .tuple #[val k 0 ⟨b.toArray⟩, .int .i64 0] else .tuple #[val 0 0 ⟨#[]⟩, .int .i64 120] | none => .tuple #[val 0 0 ⟨#[]⟩, .int .i64 120]

set_option maxHeartbeats 2000000 in
set_option maxRecDepth 10000 in
theorem rread_text (s : ByteArray) (hs : s.size ≤ 1000) (hnull : s.data.toList ≠ nullL) (hm : numR s.data.toList = none) (h2 : 2 ≤ s.size) (hq : (s[0]'(by omega)).toNat = 39) (hz : (s[s.size - 1]'(by omega)).toNat = 39) (w : World) (o : Option (List UInt8)) (ho : unq ((s.data.toList.drop 1).take (s.size - 2)) = o) :
    Calls Tryd.prog 19 #[.string s] w fun e w' => e = .returned (readV 2 o) ∧ Below w.heap.size w w' := by
  have h1 : ¬ (1000 : Int) < (s.size : Int) := by omega
  have hne : (s.toList == [78, 85, 76, 76]) = false := by rw [ByteArray.toList_eq]; simpa [nullL] using hnull
  have HN : Hid (∀ V, Calls Tryd.prog 26 #[.string s] V fun e w' => e = .returned (.tuple #[.int .i64 0, .bool false]) ∧ Below V.heap.size V w') := fun V => by have := number_walk s hs V; rw [hm] at this; exact this
  have HW : Hid (∀ V, _ → _) := res_later w
  have p0 : (0 : Int) < (s.size : Int) := by omega
  have p1 : ¬ (s.size : Int) < 2 := by omega
  have hb0 : ∀ (h : 0 < s.size), ((s[0]'h).toNat : Int) = 39 := fun h => by rw [hq]; rfl
  have m4 : (1 : Int) ≤ (s.size : Int) - 1 := by omega
  have hbz : ∀ (h : s.size - 1 < s.size), ((s[s.size - 1]'h).toNat : Int) = 39 := fun h => by rw [hz]; rfl
  have m1 : ((s.size : Int) - 1).toNat = s.size - 1 := by omega
  have m2 : (0 : Int) ≤ (s.size : Int) - 1 := by omega
  have m3 : (s.size : Int) - 1 < (s.size : Int) := by omega
  have m5 : (s.size : Int) - 1 ≤ (s.size : Int) := by omega
  have hw1 : IntKind.i64.wrap ((s.size : Int) - 1) = (s.size : Int) - 1 := by rw [IntKind.wrap_i64]; omega
  obtain ⟨s1, hs1⟩ : ∃ s1, s.extract 1 (s.size - 1) = s1 := ⟨_, rfl⟩
  have hl1 : s1.data.toList = (s.data.toList.drop 1).take (s.size - 2) := by
    rw [← hs1, Lib.extract_eq]
    show List.take _ _ = _
    rw [show s.size - 1 - 1 = s.size - 2 by omega]
  have hz1 : s1.size ≤ 1000 := by
    have h3 : s1.data.toList.length = s1.size := by simp
    have h4 : s.data.toList.length = s.size := by simp
    rw [← h3, hl1, List.length_take, List.length_drop, h4]; omega
  have HBy : Hid (∀ V, Calls Tryd.prog 27 #[.string s1, .bool false] V fun e w' => e = .returned (bytV o) ∧ Below V.heap.size V w') := fun V => by have := bytes_text s1 hz1 V; rw [hl1, ho] at this; exact this
  clear hm hnull hq hz hl1 hz1 ho
  cases o with
  | none =>
    go_enter Tryd.func19, Tryd.ntmps19
    go_wp2_with (first
      | (go_at_call 26; with_reducible refine Calls.mono (HN.out _) ?_; rintro e w1 ⟨rfl, hb1⟩; have HBx := hide hb1; clear hb1)
      | (go_at_call 27; with_reducible refine Calls.mono (HBy.out _) ?_; rintro e w2 ⟨he, hb2⟩; dsimp only [bytV] at he; subst he; obtain ⟨d0, d1, d2, f0, f1, f2, a0, a1, a2, b0, b1, b2, HK1, HB1, HL1⟩ := HW.out _ (below_trans HBx.out hb2); have HBx2 := hide (below_trans HBx.out hb2); clear hb2)
      | (go_at_call 12; with_reducible refine Calls.mono (rmay_walk _ _ _ _) ?_; rintro e w3 ⟨rfl, hb3⟩; obtain ⟨d0, d1, d2, f0, f1, f2, a0, a1, a2, b0, b1, b2, HK3, HB3, HL3⟩ := HW.out _ (below_trans HBx2.out (below_trans (new_below w2 _ rfl) hb3)); clear hb3))

    first
      | exact ret_val2 Tryd.results19 rfl rfl ((Below.heap_alloc _ _ _ HL1.out).trans HK1.out) ⟨rfl, below_set3 (HB1.out.alloc HB1.out.size _) _ _ _⟩
      | exact ret_any Tryd.results19 rfl rfl (set3_alloc HK1.out _ _ _ _) ⟨rfl, below_set3_alloc HB1.out _ _ _ _⟩
  | some b =>
    by_cases hb4 : b.length ≤ 400
    · have hmB : mayB 2 0 ⟨b.toArray⟩ = true := by rw [may2]; simpa [ByteArray.size] using hb4
      have HR : Hid (readV 2 (some b) = .tuple #[val 2 0 ⟨b.toArray⟩, .int .i64 0]) := if_pos hb4
      rw [HR.out]
      go_enter Tryd.func19, Tryd.ntmps19
      go_wp2_with (first
        | (go_at_call 26; with_reducible refine Calls.mono (HN.out _) ?_; rintro e w1 ⟨rfl, hb1⟩; have HBx := hide hb1; clear hb1)
        | (go_at_call 27; with_reducible refine Calls.mono (HBy.out _) ?_; rintro e w2 ⟨he, hb2⟩; dsimp only [bytV] at he; subst he; obtain ⟨d0, d1, d2, f0, f1, f2, a0, a1, a2, b0, b1, b2, HK1, HB1, HL1⟩ := HW.out _ (below_trans HBx.out hb2); have HBx2 := hide (below_trans HBx.out hb2); clear hb2)
        | (go_at_call 12; with_reducible refine Calls.mono (rmay_walk _ _ _ _) ?_; rintro e w3 ⟨rfl, hb3⟩; obtain ⟨d0, d1, d2, f0, f1, f2, a0, a1, a2, b0, b1, b2, HK3, HB3, HL3⟩ := HW.out _ (below_trans HBx2.out (below_trans (new_below w2 _ rfl) hb3)); obtain ⟨v0, v1, v2, vv0, vv1, vv2⟩ := later_block w2 (.int .i64 2) (.int .i64 0) (.string ⟨b.toArray⟩) 31 _ hb3; clear hb3))
      exact ret_val2 Tryd.results19 rfl rfl HK3.out ⟨rfl, below_set3 HB3.out _ _ _⟩
    · have hmB : mayB 2 0 ⟨b.toArray⟩ = false := by rw [may2]; simpa [ByteArray.size] using hb4
      have HR : Hid (readV 2 (some b) = .tuple #[val 0 0 ⟨#[]⟩, .int .i64 120]) := if_neg hb4
      rw [HR.out]
      go_enter Tryd.func19, Tryd.ntmps19
      go_wp2_with (first
        | (go_at_call 26; with_reducible refine Calls.mono (HN.out _) ?_; rintro e w1 ⟨rfl, hb1⟩; have HBx := hide hb1; clear hb1)
        | (go_at_call 27; with_reducible refine Calls.mono (HBy.out _) ?_; rintro e w2 ⟨he, hb2⟩; dsimp only [bytV] at he; subst he; obtain ⟨d0, d1, d2, f0, f1, f2, a0, a1, a2, b0, b1, b2, HK1, HB1, HL1⟩ := HW.out _ (below_trans HBx.out hb2); have HBx2 := hide (below_trans HBx.out hb2); clear hb2)
        | (go_at_call 12; with_reducible refine Calls.mono (rmay_walk _ _ _ _) ?_; rintro e w3 ⟨rfl, hb3⟩; obtain ⟨d0, d1, d2, f0, f1, f2, a0, a1, a2, b0, b1, b2, HK3, HB3, HL3⟩ := HW.out _ (below_trans HBx2.out (below_trans (new_below w2 _ rfl) hb3)); obtain ⟨v0, v1, v2, vv0, vv1, vv2⟩ := later_block w2 (.int .i64 2) (.int .i64 0) (.string ⟨b.toArray⟩) 31 _ hb3; clear hb3))
      exact ret_val2 Tryd.results19 rfl rfl HK3.out ⟨rfl, below_set3 HB3.out _ _ _⟩

end Go.Proofs.YtghemaghbpekfaaDoor
