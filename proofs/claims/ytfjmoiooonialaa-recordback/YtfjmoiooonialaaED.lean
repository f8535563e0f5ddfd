/- Whether two rows are the same. -/
import Derived.Test.YtfjmoiooonialaaEB
namespace Go.Proofs.Ytfjmoiooonialaa
open Go.ChangeShapes Go.WideShapes Go.ChangeAt Go.RowKit
set_option linter.unusedVariables false

/-- The same values at a place. -/
def SameAt (K N : Nat → Int) (T : Nat → ByteArray) (K2 N2 : Nat → Int) (T2 : Nat → ByteArray) (i : Nat) : Prop := K i = K2 i ∧ N i = N2 i ∧ T i = T2 i
open Classical in
noncomputable def sameR (la lb : Nat) (K N : Nat → Int) (T : Nat → ByteArray) (K2 N2 : Nat → Int) (T2 : Nat → ByteArray) : Bool := decide (la = lb ∧ ∀ i, i < la → SameAt K N T K2 N2 T2 i)
open Classical in
theorem same_yes {len : Nat} {K N : Nat → Int} {T : Nat → ByteArray} {K2 N2 : Nat → Int} {T2 : Nat → ByteArray} (h : ∀ i, i < len → SameAt K N T K2 N2 T2 i) : sameR len len K N T K2 N2 T2 = true := decide_eq_true ⟨rfl, h⟩
open Classical in
theorem same_no {len j : Nat} {K N : Nat → Int} {T : Nat → ByteArray} {K2 N2 : Nat → Int} {T2 : Nat → ByteArray} (hj : j < len) (h : ¬ SameAt K N T K2 N2 T2 j) : sameR len len K N T K2 N2 T2 = false := decide_eq_false fun h' => h (h'.2 j hj)
open Classical in
theorem same_len {la lb : Nat} {K N : Nat → Int} {T : Nat → ByteArray} {K2 N2 : Nat → Int} {T2 : Nat → ByteArray} (h : ¬ la = lb) : sameR la lb K N T K2 N2 T2 = false := decide_eq_false fun h' => h h'.1

set_option maxHeartbeats 2000000 in
set_option maxRecDepth 10000 in
theorem rsame_walk (pa pb : Option Addr) (la ca lb cb2 : Nat) (K N : Nat → Int) (T : Nat → ByteArray) (K2 N2 : Nat → Int) (T2 : Nat → ByteArray) (hla : la ≤ 140737488355328) (w : World) (h : RowP w pa la K N T) (h2 : RowP w pb lb K2 N2 T2) :
    Calls Try.prog 18 #[.slice pa la ca, .slice pb lb cb2] w fun e w' => e = .returned (.bool (sameR la lb K N T K2 N2 T2)) ∧ Below w.heap.size w w' := by
  by_cases hl : la = lb
  · subst hl
    have HRp := hide h
    have HRp2 := hide h2
    clear h h2
    go_enter Try.func18, Try.ntmps18
    go_wp2
    go_loopw [5] (fun iv wr => ∃ j : Nat, j ≤ la ∧ iv = .int .i64 (j : Int) ∧ (∀ i, i < j → SameAt K N T K2 N2 T2 i) ∧ Below w.heap.size w wr) (fun iv _ => la - (intOf iv).toNat)
    case atStart => exact ⟨0, Nat.zero_le _, rfl, fun i hi => by omega, Below.refl _ _⟩
    case round =>
      obtain ⟨j, hj, rfl, hall, hb⟩ := hrel
      have HA := hide hall
      have HB := hide hb
      clear hall hb
      by_cases hlt : j < la
      · have l1 : (j : Int) < (la : Int) := by omega
        have l0 : (0 : Int) ≤ (j : Int) := by omega
        have hw1 : IntKind.i64.wrap ((j : Int) + 1) = (j : Int) + 1 := by rw [IntKind.wrap_i64]; omega
        obtain ⟨b, o, rfl, hr⟩ := HRp.out (by omega)
        obtain ⟨b2, o2, rfl, hr2⟩ := HRp2.out (by omega)
        have HBD : Hid (Below w.heap.size w wr.drew) := HB.out.drew
        have HS : Hid ((fun V => (V.cell? ⟨b, o + j * 3, none⟩ = some (.int .i64 (K j)) ∧ V.cell? ⟨b, o + j * 3 + 1, none⟩ = some (.int .i64 (N j)) ∧ V.cell? ⟨b, o + j * 3 + 2, none⟩ = some (.string (T j))) ∧ (V.cell? ⟨b2, o2 + j * 3, none⟩ = some (.int .i64 (K2 j)) ∧ V.cell? ⟨b2, o2 + j * 3 + 1, none⟩ = some (.int .i64 (N2 j)) ∧ V.cell? ⟨b2, o2 + j * 3 + 2, none⟩ = some (.string (T2 j)))) wr.drew) := ⟨(hr.later HBD.out) j hlt, (hr2.later HBD.out) j hlt⟩
        clear hr hr2
        by_cases hs : SameAt K N T K2 N2 T2 j
        · have HSa := hide hs
          obtain ⟨e0, e1, e2⟩ := hs
          rw [← e0, ← e1, ← e2] at HS
          go_wp2_with fail
          go_region_held3 (fun V => (V.cell? ⟨b, o + j * 3, none⟩ = some (.int .i64 (K j)) ∧ V.cell? ⟨b, o + j * 3 + 1, none⟩ = some (.int .i64 (N j)) ∧ V.cell? ⟨b, o + j * 3 + 2, none⟩ = some (.string (T j))) ∧ (V.cell? ⟨b2, o2 + j * 3, none⟩ = some (.int .i64 (K j)) ∧ V.cell? ⟨b2, o2 + j * 3 + 1, none⟩ = some (.int .i64 (N j)) ∧ V.cell? ⟨b2, o2 + j * 3 + 2, none⟩ = some (.string (T j)))) (with_reducible exact HS.out) (fail)
          all_goals (try go_wp2)
          all_goals
            refine ⟨⟨j + 1, hlt, rfl, fun i hi => ?_, HBD.out⟩, ?_⟩
            · by_cases e : i = j
              · subst e; exact HSa.out
              · exact HA.out i (by omega)
            · simp only [intOf]; omega
        · have HNo := hide (same_no hlt hs)
          have HNs := hide hs
          clear hs
          by_cases f0 : K j = K2 j
          · by_cases f1 : N j = N2 j
            · have f2 : ¬ T j = T2 j := fun f2 => HNs.out ⟨f0, f1, f2⟩
              have f3 : ¬ (T j).toList = (T2 j).toList := fun e => by rw [ByteArray.toList_eq, ByteArray.toList_eq] at e; exact f2 (ByteArray.ext (Array.toList_inj.1 e))
              have f4 : ((T j).toList == (T2 j).toList) = false := by simp [f3]
              rw [← f0, ← f1] at HS
              clear f0 f1
              go_wp2_with fail
              go_region_held3 (fun V => (V.cell? ⟨b, o + j * 3, none⟩ = some (.int .i64 (K j)) ∧ V.cell? ⟨b, o + j * 3 + 1, none⟩ = some (.int .i64 (N j)) ∧ V.cell? ⟨b, o + j * 3 + 2, none⟩ = some (.string (T j))) ∧ (V.cell? ⟨b2, o2 + j * 3, none⟩ = some (.int .i64 (K j)) ∧ V.cell? ⟨b2, o2 + j * 3 + 1, none⟩ = some (.int .i64 (N j)) ∧ V.cell? ⟨b2, o2 + j * 3 + 2, none⟩ = some (.string (T2 j)))) (with_reducible exact HS.out) (fail)
              all_goals (try go_wp2)
              all_goals go_ret
              all_goals exact ⟨by rw [HNo.out]; rfl, HBD.out⟩
            · rw [← f0] at HS
              clear f0
              go_wp2_with fail
              go_region_held3 (fun V => (V.cell? ⟨b, o + j * 3, none⟩ = some (.int .i64 (K j)) ∧ V.cell? ⟨b, o + j * 3 + 1, none⟩ = some (.int .i64 (N j)) ∧ V.cell? ⟨b, o + j * 3 + 2, none⟩ = some (.string (T j))) ∧ (V.cell? ⟨b2, o2 + j * 3, none⟩ = some (.int .i64 (K j)) ∧ V.cell? ⟨b2, o2 + j * 3 + 1, none⟩ = some (.int .i64 (N2 j)) ∧ V.cell? ⟨b2, o2 + j * 3 + 2, none⟩ = some (.string (T2 j)))) (with_reducible exact HS.out) (fail)
              all_goals (try go_wp2)
              all_goals go_ret
              all_goals exact ⟨by rw [HNo.out]; rfl, HBD.out⟩
          · go_wp2_with fail
            go_region_held3 (fun V => (V.cell? ⟨b, o + j * 3, none⟩ = some (.int .i64 (K j)) ∧ V.cell? ⟨b, o + j * 3 + 1, none⟩ = some (.int .i64 (N j)) ∧ V.cell? ⟨b, o + j * 3 + 2, none⟩ = some (.string (T j))) ∧ (V.cell? ⟨b2, o2 + j * 3, none⟩ = some (.int .i64 (K2 j)) ∧ V.cell? ⟨b2, o2 + j * 3 + 1, none⟩ = some (.int .i64 (N2 j)) ∧ V.cell? ⟨b2, o2 + j * 3 + 2, none⟩ = some (.string (T2 j)))) (with_reducible exact HS.out) (fail)
            all_goals (try go_wp2)
            all_goals go_ret
            all_goals exact ⟨by rw [HNo.out]; rfl, HBD.out⟩
      · have l1 : ¬ (j : Int) < (la : Int) := by omega
        obtain rfl : la = j := by omega
        have HY := hide (same_yes HA.out)
        go_wp2_with fail
        go_ret
        exact ⟨by rw [HY.out]; rfl, HB.out⟩
  · have HNo := hide (same_len (K := K) (N := N) (T := T) (K2 := K2) (N2 := N2) (T2 := T2) hl)
    have l1 : ¬ (la : Int) = (lb : Int) := by omega
    clear h h2
    go_enter Try.func18, Try.ntmps18
    go_wp2
    go_ret
    exact ⟨by rw [HNo.out]; rfl, Below.refl _ _⟩

set_option maxHeartbeats 2000000 in
set_option maxRecDepth 10000 in
theorem equal_walk (pa pb : Option Addr) (la ca lb cb2 : Nat) (K N : Nat → Int) (T : Nat → ByteArray) (K2 N2 : Nat → Int) (T2 : Nat → ByteArray) (hla : la ≤ 140737488355328) (w : World) (h : RowP w pa la K N T) (h2 : RowP w pb lb K2 N2 T2) :
    Calls Try.prog 33 #[.slice pa la ca, .slice pb lb cb2] w fun e w' => e = .returned (.bool (sameR la lb K N T K2 N2 T2)) ∧ Below w.heap.size w w' := by
  by_cases hl : la = lb
  · subst hl
    have HRp := hide h
    have HRp2 := hide h2
    clear h h2
    go_enter Try.func33, Try.ntmps33
    go_wp2
    go_loopw [13] (fun iv wr => ∃ j : Nat, j ≤ la ∧ iv = .int .i64 (j : Int) ∧ (∀ i, i < j → SameAt K N T K2 N2 T2 i) ∧ Below w.heap.size w wr) (fun iv _ => la - (intOf iv).toNat)
    case atStart => exact ⟨0, Nat.zero_le _, rfl, fun i hi => by omega, Below.refl _ _⟩
    case round =>
      obtain ⟨j, hj, rfl, hall, hb⟩ := hrel
      have HA := hide hall
      have HB := hide hb
      clear hall hb
      by_cases hlt : j < la
      · have l1 : (j : Int) < (la : Int) := by omega
        have l0 : (0 : Int) ≤ (j : Int) := by omega
        have hw1 : IntKind.i64.wrap ((j : Int) + 1) = (j : Int) + 1 := by rw [IntKind.wrap_i64]; omega
        obtain ⟨b, o, rfl, hr⟩ := HRp.out (by omega)
        obtain ⟨b2, o2, rfl, hr2⟩ := HRp2.out (by omega)
        have HBD : Hid (Below w.heap.size w wr.drew) := HB.out.drew
        have HS : Hid ((fun V => (V.cell? ⟨b, o + j * 3, none⟩ = some (.int .i64 (K j)) ∧ V.cell? ⟨b, o + j * 3 + 1, none⟩ = some (.int .i64 (N j)) ∧ V.cell? ⟨b, o + j * 3 + 2, none⟩ = some (.string (T j))) ∧ (V.cell? ⟨b2, o2 + j * 3, none⟩ = some (.int .i64 (K2 j)) ∧ V.cell? ⟨b2, o2 + j * 3 + 1, none⟩ = some (.int .i64 (N2 j)) ∧ V.cell? ⟨b2, o2 + j * 3 + 2, none⟩ = some (.string (T2 j)))) wr.drew) := ⟨(hr.later HBD.out) j hlt, (hr2.later HBD.out) j hlt⟩
        clear hr hr2
        by_cases hs : SameAt K N T K2 N2 T2 j
        · have HSa := hide hs
          obtain ⟨e0, e1, e2⟩ := hs
          rw [← e0, ← e1, ← e2] at HS
          go_wp2_with fail
          go_region_held3 (fun V => (V.cell? ⟨b, o + j * 3, none⟩ = some (.int .i64 (K j)) ∧ V.cell? ⟨b, o + j * 3 + 1, none⟩ = some (.int .i64 (N j)) ∧ V.cell? ⟨b, o + j * 3 + 2, none⟩ = some (.string (T j))) ∧ (V.cell? ⟨b2, o2 + j * 3, none⟩ = some (.int .i64 (K j)) ∧ V.cell? ⟨b2, o2 + j * 3 + 1, none⟩ = some (.int .i64 (N j)) ∧ V.cell? ⟨b2, o2 + j * 3 + 2, none⟩ = some (.string (T j)))) (with_reducible exact HS.out) (fail)
          all_goals (try go_wp2)
          all_goals
            refine ⟨⟨j + 1, hlt, rfl, fun i hi => ?_, HBD.out⟩, ?_⟩
            · by_cases e : i = j
              · subst e; exact HSa.out
              · exact HA.out i (by omega)
            · simp only [intOf]; omega
        · have HNo := hide (same_no hlt hs)
          have HNs := hide hs
          clear hs
          by_cases f0 : K j = K2 j
          · by_cases f1 : N j = N2 j
            · have f2 : ¬ T j = T2 j := fun f2 => HNs.out ⟨f0, f1, f2⟩
              have f3 : ¬ (T j).toList = (T2 j).toList := fun e => by rw [ByteArray.toList_eq, ByteArray.toList_eq] at e; exact f2 (ByteArray.ext (Array.toList_inj.1 e))
              have f4 : ((T j).toList == (T2 j).toList) = false := by simp [f3]
              rw [← f0, ← f1] at HS
              clear f0 f1
              go_wp2_with fail
              go_region_held3 (fun V => (V.cell? ⟨b, o + j * 3, none⟩ = some (.int .i64 (K j)) ∧ V.cell? ⟨b, o + j * 3 + 1, none⟩ = some (.int .i64 (N j)) ∧ V.cell? ⟨b, o + j * 3 + 2, none⟩ = some (.string (T j))) ∧ (V.cell? ⟨b2, o2 + j * 3, none⟩ = some (.int .i64 (K j)) ∧ V.cell? ⟨b2, o2 + j * 3 + 1, none⟩ = some (.int .i64 (N j)) ∧ V.cell? ⟨b2, o2 + j * 3 + 2, none⟩ = some (.string (T2 j)))) (with_reducible exact HS.out) (fail)
              all_goals (try go_wp2)
              all_goals go_ret
              all_goals exact ⟨by rw [HNo.out]; rfl, HBD.out⟩
            · rw [← f0] at HS
              clear f0
              go_wp2_with fail
              go_region_held3 (fun V => (V.cell? ⟨b, o + j * 3, none⟩ = some (.int .i64 (K j)) ∧ V.cell? ⟨b, o + j * 3 + 1, none⟩ = some (.int .i64 (N j)) ∧ V.cell? ⟨b, o + j * 3 + 2, none⟩ = some (.string (T j))) ∧ (V.cell? ⟨b2, o2 + j * 3, none⟩ = some (.int .i64 (K j)) ∧ V.cell? ⟨b2, o2 + j * 3 + 1, none⟩ = some (.int .i64 (N2 j)) ∧ V.cell? ⟨b2, o2 + j * 3 + 2, none⟩ = some (.string (T2 j)))) (with_reducible exact HS.out) (fail)
              all_goals (try go_wp2)
              all_goals go_ret
              all_goals exact ⟨by rw [HNo.out]; rfl, HBD.out⟩
          · go_wp2_with fail
            go_region_held3 (fun V => (V.cell? ⟨b, o + j * 3, none⟩ = some (.int .i64 (K j)) ∧ V.cell? ⟨b, o + j * 3 + 1, none⟩ = some (.int .i64 (N j)) ∧ V.cell? ⟨b, o + j * 3 + 2, none⟩ = some (.string (T j))) ∧ (V.cell? ⟨b2, o2 + j * 3, none⟩ = some (.int .i64 (K2 j)) ∧ V.cell? ⟨b2, o2 + j * 3 + 1, none⟩ = some (.int .i64 (N2 j)) ∧ V.cell? ⟨b2, o2 + j * 3 + 2, none⟩ = some (.string (T2 j)))) (with_reducible exact HS.out) (fail)
            all_goals (try go_wp2)
            all_goals go_ret
            all_goals exact ⟨by rw [HNo.out]; rfl, HBD.out⟩
      · have l1 : ¬ (j : Int) < (la : Int) := by omega
        obtain rfl : la = j := by omega
        have HY := hide (same_yes HA.out)
        go_wp2_with fail
        go_ret
        exact ⟨by rw [HY.out]; rfl, HB.out⟩
  · have HNo := hide (same_len (K := K) (N := N) (T := T) (K2 := K2) (N2 := N2) (T2 := T2) hl)
    have l1 : ¬ (la : Int) = (lb : Int) := by omega
    clear h h2
    go_enter Try.func33, Try.ntmps33
    go_wp2
    go_ret
    exact ⟨by rw [HNo.out]; rfl, Below.refl _ _⟩

theorem same_walk (pa pb : Option Addr) (la ca lb cb2 : Nat) (K N : Nat → Int) (T : Nat → ByteArray) (K2 N2 : Nat → Int) (T2 : Nat → ByteArray) (hla : la ≤ 140737488355328) (w : World) (h : RowP w pa la K N T) (h2 : RowP w pb lb K2 N2 T2) :
    Calls Try.prog 19 #[.slice pa la ca, .slice pb lb cb2] w fun e w' => e = .returned (.bool (sameR la lb K N T K2 N2 T2)) ∧ Below w.heap.size w w' := by
  have HE := hide (equal_walk pa pb la ca lb cb2 K N T K2 N2 T2 hla w h h2)
  clear h h2
  go_enter Try.func19, Try.ntmps19
  go_wp2_with (first
    | (go_at_call 33; with_reducible refine Calls.mono HE.out ?_; rintro e w1 ⟨rfl, hb⟩; have HX := hide hb; clear hb))
  go_ret
  exact ⟨rfl, HX.out⟩
end Go.Proofs.Ytfjmoiooonialaa
