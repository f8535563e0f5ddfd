/- The laws' own walks, whatever the code's answers are proved by: head, TokenScans, TokenWords, TokenSplits. -/
import Derived.Test.YtkooijhdjjdigabDoorKJ
import Derived.Test.YtkooijhdjjdigabDoorKM
import Derived.Test.YtkooijhdjjdigabDoorKP
namespace Go.Proofs.YtkooijhdjjdigabDoor
open Go.ChangeShapes Go.WideShapes Go.ChangeAt Go.RowKit
set_option linter.unusedVariables false

/-- What the code's Scan answers, where it does. -/
def ScanOk (s : ByteArray) : Prop := ∀ V : World, Env V → Calls Tryd.prog 4 #[.string s] V fun e w' => ∃ v, e = .returned (.tuple #[v, .int .i64 (scanR s.data.toList).2.1, .int .i64 (scanR s.data.toList).2.2]) ∧ TkAt w' v (scanR s.data.toList).1 ∧ Below V.heap.size V w'
def hd1 : ByteArray := { data := #[97, 60, 61, 49, 45, 45, 120] }
def hd2 : ByteArray := { data := #[97, 32, 35] }
theorem hd1_r : scanR hd1.data.toList = ([⟨1, 0, [97]⟩, ⟨6, 1, [60, 61]⟩, ⟨2, 3, [49]⟩], 0, 0) := by rfl
theorem hd2_r : scanR hd2.data.toList = ([], 2, 250) := by rfl
theorem hd_q {w : World} {v : Value} (h : TkAt w v [⟨1, 0, [97]⟩, ⟨6, 1, [60, 61]⟩, ⟨2, 3, [49]⟩]) : ∃ g c, v = .slice (some ⟨g, 0, none⟩) 3 c ∧ ∀ V, Below w.heap.size w V → V.cell? ⟨g, 3, none⟩ = some (.int .i64 6) ∧ V.cell? ⟨g, 4, none⟩ = some (.int .i64 1) ∧ V.cell? ⟨g, 5, none⟩ = some (.string ⟨#[60, 61]⟩) := by
  obtain ⟨p, c, rfl, h⟩ := h
  obtain ⟨g, rfl, h2⟩ := h (by simp)
  exact ⟨g, c, rfl, fun V hV => h2 V hV 1 ⟨6, 1, [60, 61]⟩ rfl⟩
set_option maxHeartbeats 1000000 in
set_option maxRecDepth 10000 in
theorem head_e (H1 : ScanOk hd1) (H2 : ScanOk hd2) (w : World) (hE : Env w) : Calls Tryd.prog 5 #[] w fun e w' => e = .returned (.bool true) ∧ Below w.heap.size w w' := by
  have HE := hide (fun V (hV : Below w.heap.size w V) => hE.below hV)
  unfold ScanOk at H1 H2
  rw [hd1_r] at H1
  rw [hd2_r] at H2
  unfold hd1 at H1
  unfold hd2 at H2
  simp only at H1 H2
  have HA := hide H1
  have HB := hide H2
  clear H1 H2
  go_enter Tryd.func5, Tryd.ntmps5
  go_wp2_with (first
    | (go_at_call 4; (with_reducible refine Calls.mono (HA.out _ (HE.out _ (Below.refl _ _))) ?_); rintro e w5 ⟨v1, rfl, h1, h2⟩; obtain ⟨g1, c1, rfl, q1⟩ := hd_q h1; have HQ := hide q1; have HB5 := hide h2; clear q1 h2)
    | (go_at_call 4; (with_reducible refine Calls.mono (HB.out _ (HE.out _ HB5.out)) ?_); rintro e w6 ⟨v2, rfl, h3, h4⟩; have HB6 := hide (below_trans HB5.out h4); obtain ⟨k1, k2, k3⟩ := HQ.out _ h4; clear h3 h4))
  go_ret
  exact ⟨rfl, HB6.out⟩
theorem tk_len (l : List UInt8) : ((scanR l).1).length ≤ 2000 := by
  unfold scanR
  split
  · simp
  · split
    · simp
    · have h := (toksS_rise l).few
      simp only
      omega
end Go.Proofs.YtkooijhdjjdigabDoor
