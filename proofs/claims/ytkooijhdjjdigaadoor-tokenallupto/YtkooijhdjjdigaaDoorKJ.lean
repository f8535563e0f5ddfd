/- The document's Scan. -/
import Derived.Test.YtkooijhdjjdigaaDoorKI
namespace Go.Proofs.YtkooijhdjjdigaaDoor
open Go.ChangeShapes Go.WideShapes Go.ChangeAt Go.RowKit
set_option linter.unusedVariables false

/-- What Scan answers: the tokens, a place, an error. -/
def scanR (l : List UInt8) : List Tk × Int × Int := if 2000 < l.length then ([], 0, 3) else if 0 ≤ (toksS l).2.2 then ([], (toksS l).2.2, 250) else ((toksS l).1, 0, 0)
set_option maxHeartbeats 1000000 in
set_option maxRecDepth 10000 in
theorem rscan_e (s : ByteArray) (w : World) :
    Calls Tryd.prog 10 #[.string s] w fun e w' => ∃ v, e = .returned (.tuple #[v, .int .i64 (scanR s.data.toList).2.1, .int .i64 (scanR s.data.toList).2.2]) ∧ w'.ownsRow w.heap.size 39 3 v (scanR s.data.toList).1.length (tkL (scanR s.data.toList).1) ∧ Below w.heap.size w w' := by
  have hlen : s.data.toList.length = s.size := by simp
  obtain ⟨R, hR⟩ : ∃ R, scanR s.data.toList = R := ⟨_, rfl⟩
  rw [hR]
  unfold scanR at hR
  rw [hlen] at hR
  by_cases h : 2000 < s.size
  · have l1 : (2000 : Int) < (s.size : Int) := by omega
    rw [if_pos h] at hR
    have HR := hide hR
    clear hR
    go_enter Tryd.func10, Tryd.ntmps10
    go_wp2
    go_returns
    rw [← HR.out]
    exact ⟨_, rfl, World.ownsRow_nil _ _ _ _, Below.refl _ _⟩
  · have l1 : ¬ (2000 : Int) < (s.size : Int) := by omega
    rw [if_neg h] at hR
    have HT := hide (tokens_e s (by omega) w)
    obtain ⟨T, hT⟩ : ∃ T, toksS s.data.toList = T := ⟨_, rfl⟩
    rw [hT] at hR HT
    obtain ⟨b, hb⟩ : ∃ b, T.2.2 = b := ⟨_, rfl⟩
    rw [hb] at hR HT
    by_cases h0 : 0 ≤ b
    · rw [if_pos h0] at hR
      have HR := hide hR
      clear hR hT hb
      go_enter Tryd.func10, Tryd.ntmps10
      go_wp2_with (first
        | (go_at_call 13; (with_reducible refine Calls.mono HT.out ?_); rintro e w5 ⟨v1, v2, rfl, h1, h2, h3⟩; have HB := hide h3; clear h1 h2 h3))
      go_returns
      rw [← HR.out]
      exact ⟨_, rfl, World.ownsRow_nil _ _ _ _, HB.out⟩
    · rw [if_neg h0] at hR
      have HR := hide hR
      clear hR hT hb
      go_enter Tryd.func10, Tryd.ntmps10
      go_wp2_with (first
        | (go_at_call 13; (with_reducible refine Calls.mono HT.out ?_); rintro e w5 ⟨v1, v2, rfl, h1, h2, h3⟩; have HO := hide h1; have HB := hide h3; clear h1 h2 h3))
      go_returns
      rw [← HR.out]
      exact ⟨_, rfl, HO.out, HB.out⟩
end Go.Proofs.YtkooijhdjjdigaaDoor
