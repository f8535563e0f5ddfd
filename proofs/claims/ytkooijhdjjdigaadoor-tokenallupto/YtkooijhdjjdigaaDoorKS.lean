/- The laws' own walks, whatever the code's answers are proved by: head, TokenScans, TokenWords, TokenSplits. -/
import Derived.Test.YtkooijhdjjdigaaDoorKJ
import Derived.Test.YtkooijhdjjdigaaDoorKM
import Derived.Test.YtkooijhdjjdigaaDoorKP
namespace Go.Proofs.YtkooijhdjjdigaaDoor
open Go.ChangeShapes Go.WideShapes Go.ChangeAt Go.RowKit
set_option linter.unusedVariables false

/-- What the code's Scan answers, where it does. -/
def ScanOk (s : ByteArray) : Prop := ∀ V : World, Env V → Calls Tryd.prog 9 #[.string s] V fun e w' => ∃ v, e = .returned (.tuple #[v, .int .i64 (scanR s.data.toList).2.1, .int .i64 (scanR s.data.toList).2.2]) ∧ TkAt w' v (scanR s.data.toList).1 ∧ Below V.heap.size V w'
def hd1 : ByteArray := { data := #[97, 60, 61, 49, 45, 45, 120] }
def hd2 : ByteArray := { data := #[97, 32, 35] }
theorem hd1_r : scanR hd1.data.toList = ([⟨1, 0, [97]⟩, ⟨6, 1, [60, 61]⟩, ⟨2, 3, [49]⟩], 0, 0) := by rfl
theorem hd2_r : scanR hd2.data.toList = ([], 2, 250) := by rfl
theorem hd_q {w : World} {v : Value} (h : TkAt w v [⟨1, 0, [97]⟩, ⟨6, 1, [60, 61]⟩, ⟨2, 3, [49]⟩]) : ∃ g c, v = .slice (some ⟨g, 0, none⟩) 3 c ∧ ∀ V, Below w.heap.size w V → V.cell? ⟨g, 3, none⟩ = some (.int .i64 6) ∧ V.cell? ⟨g, 4, none⟩ = some (.int .i64 1) ∧ V.cell? ⟨g, 5, none⟩ = some (.string ⟨#[60, 61]⟩) := by
  obtain ⟨p, c, rfl, h⟩ := h
  obtain ⟨g, rfl, h2⟩ := h (by simp)
  exact ⟨g, c, rfl, fun V hV => h2 V hV 1 ⟨6, 1, [60, 61]⟩ rfl⟩
set_option maxHeartbeats 1000000 in
set_option maxRecDepth 10000 in
theorem head_e (H1 : ScanOk hd1) (H2 : ScanOk hd2) (w : World) (hE : Env w) : Calls Tryd.prog 11 #[] w fun e w' => e = .returned (.bool true) ∧ Below w.heap.size w w' := by
  have HE := hide (fun V (hV : Below w.heap.size w V) => hE.below hV)
  unfold ScanOk at H1 H2
  rw [hd1_r] at H1
  rw [hd2_r] at H2
  unfold hd1 at H1
  unfold hd2 at H2
  simp only at H1 H2
  have HA := hide H1
  have HB := hide H2
  clear H1 H2
  go_enter Tryd.func11, Tryd.ntmps11
  go_wp2_with (first
    | (go_at_call 9; (with_reducible refine Calls.mono (HA.out _ (HE.out _ (Below.refl _ _))) ?_); rintro e w5 ⟨v1, rfl, h1, h2⟩; obtain ⟨g1, c1, rfl, q1⟩ := hd_q h1; have HQ := hide q1; have HB5 := hide h2; clear q1 h2)
    | (go_at_call 9; (with_reducible refine Calls.mono (HB.out _ (HE.out _ HB5.out)) ?_); rintro e w6 ⟨v2, rfl, h3, h4⟩; have HB6 := hide (below_trans HB5.out h4); obtain ⟨k1, k2, k3⟩ := HQ.out _ h4; clear h3 h4))
  go_ret
  exact ⟨rfl, HB6.out⟩
theorem tk_len (l : List UInt8) : ((scanR l).1).length ≤ 2000 := by
  unfold scanR
  split
  · simp
  · split
    · simp
    · have h := (toksS_rise l).few
      simp only
      omega
set_option maxHeartbeats 1000000 in
set_option maxRecDepth 10000 in
theorem tokenScans_e (s : ByteArray) (H1 : ScanOk hd1) (H2 : ScanOk hd2) (H3 : ScanOk s) (w : World) (hE : Env w) : Calls Tryd.prog 3 #[.string s] w fun e w' => e = .returned (.bool true) ∧ Below w.heap.size w w' := by
  have HE := hide (fun V (hV : Below w.heap.size w V) => hE.below hV)
  have HH := hide (fun V hV => head_e H1 H2 V hV)
  have HR := hide (fun V => rscan_e s V)
  unfold ScanOk at H3
  have HS := hide H3
  have hl := tk_len s.data.toList
  obtain ⟨L, a, b, hR⟩ : ∃ L a b, scanR s.data.toList = (L, a, b) := ⟨_, _, _, rfl⟩
  rw [hR] at HS HR hl
  have HL := hide hl
  clear hl hR H1 H2 H3
  go_enter Tryd.func3, Tryd.ntmps3
  go_wp2_with (first
    | (go_at_call 9; (with_reducible refine Calls.mono (HS.out _ (HE.out _ (Below.refl _ _))) ?_); rintro e w5 ⟨v1, rfl, h1, h2⟩; have HT5 := hide h1; have HB5 := hide h2; clear h1 h2)
    | (go_at_call 10; (with_reducible refine Calls.mono (HR.out _) ?_); rintro e w6 ⟨v2, rfl, h1, h2⟩; have HU6 := hide (tkAt_own h1); have HT6 := hide (HT5.out.later h2); have HB6 := hide (below_trans HB5.out h2); clear h1 h2)
    | (go_at_call 11; (with_reducible refine Calls.mono (HH.out _ (HE.out _ HB6.out)) ?_); rintro e w7 ⟨rfl, h2⟩; have HU7 := hide (HU6.out.later h2); have HT7 := hide (HT6.out.later h2); have HB7 := hide (below_trans HB6.out h2); have HE7 := hide (fun V (hV : V = w7) => same_e w7 v1 v2 L L (HT6.out.later h2) (HU6.out.later h2) (Nat.le_trans HL.out (by decide))); clear h2)
    | (go_at_call 12; (with_reducible refine Calls.mono (HE7.out _ rfl) ?_); rintro e w8 ⟨rfl, h2⟩; have HB8 := hide (below_trans HB7.out h2); clear h2; simp only [decide_true]))
  go_ret
  exact ⟨rfl, HB8.out⟩
def KeyOk (s : ByteArray) : Prop := ∀ V : World, Calls Tryd.prog 15 #[.string s] V fun e w' => e = .returned (keyV (keyR s.data.toList)) ∧ Below V.heap.size V w'
def NameOk (s : ByteArray) : Prop := ∀ V : World, Calls Tryd.prog 17 #[.string s] V fun e w' => e = .returned (.bool (nameB s.data.toList && (keyR s.data.toList).isNone)) ∧ Below V.heap.size V w'
set_option maxHeartbeats 1000000 in
set_option maxRecDepth 10000 in
theorem tokenWords_e (s : ByteArray) (hs : s.size ≤ 140737488351232) (H1 : ScanOk hd1) (H2 : ScanOk hd2) (H3 : KeyOk s) (H4 : NameOk s) (w : World) (hE : Env w) : Calls Tryd.prog 5 #[.string s] w fun e w' => e = .returned (.bool true) ∧ Below w.heap.size w w' := by
  have HE := hide (fun V (hV : Below w.heap.size w V) => hE.below hV)
  have HH := hide (fun V hV => head_e H1 H2 V hV)
  have hK := fun V => keyword_e s hs V
  have hN := fun V => rname_e s hs V
  unfold KeyOk at H3
  unfold NameOk at H4
  obtain ⟨r, b, hk⟩ : ∃ r b, keyV (keyR s.data.toList) = .tuple #[.string r, .bool b] := by
    cases keyR s.data.toList with
    | none => exact ⟨_, _, rfl⟩
    | some x => exact ⟨_, _, rfl⟩
  rw [hk] at H3
  simp only [hk] at hK
  obtain ⟨n, hn⟩ : ∃ n, (nameB s.data.toList && (keyR s.data.toList).isNone) = n := ⟨_, rfl⟩
  rw [hn] at H4
  simp only [hn] at hN
  have HK := hide H3
  have HN := hide H4
  have HK2 := hide hK
  have HN2 := hide hN
  clear H1 H2 H3 H4 hK hN hk hn
  cases b
  all_goals
    cases n
    all_goals
      go_enter Tryd.func5, Tryd.ntmps5
      go_wp2_with (first
        | (go_at_call 15; (with_reducible refine Calls.mono (HK.out _) ?_); rintro e w5 ⟨rfl, h2⟩; have HB5 := hide h2; clear h2)
        | (go_at_call 16; (with_reducible refine Calls.mono (HK2.out _) ?_); rintro e w6 ⟨rfl, h2⟩; have HB6 := hide (below_trans HB5.out h2); clear h2)
        | (go_at_call 11; (with_reducible refine Calls.mono (HH.out _ (HE.out _ HB6.out)) ?_); rintro e w7 ⟨rfl, h2⟩; have HB7 := hide (below_trans HB6.out h2); clear h2)
        | (go_at_call 17; (with_reducible refine Calls.mono (HN.out _) ?_); rintro e w8 ⟨rfl, h2⟩; have HB8 := hide (below_trans HB7.out h2); clear h2)
        | (go_at_call 18; (with_reducible refine Calls.mono (HN2.out _) ?_); rintro e w9 ⟨rfl, h2⟩; have HB9 := hide (below_trans HB8.out h2); clear h2))
      go_ret
      exact ⟨rfl, HB9.out⟩
def SplitOk (s : ByteArray) : Prop := ∀ V : World, Env V → Calls Tryd.prog 21 #[.string s] V fun e w' => ∃ v, e = .returned (.tuple #[v, .int .i64 (splitR s.data.toList).2]) ∧ StAt w' v (splitR s.data.toList).1 ∧ Below V.heap.size V w'
set_option maxHeartbeats 1000000 in
set_option maxRecDepth 10000 in
theorem tokenSplits_e (s : ByteArray) (hs : s.size ≤ 4000000000000) (H1 : ScanOk hd1) (H2 : ScanOk hd2) (H3 : SplitOk s) (hl : (splitR s.data.toList).1.length ≤ 140737488355328) (w : World) (hE : Env w) : Calls Tryd.prog 7 #[.string s] w fun e w' => e = .returned (.bool true) ∧ Below w.heap.size w w' := by
  have HE := hide (fun V (hV : Below w.heap.size w V) => hE.below hV)
  have HH := hide (fun V hV => head_e H1 H2 V hV)
  have HR := hide (fun V => rsplit_e s hs V)
  unfold SplitOk at H3
  have HS := hide H3
  obtain ⟨L, b, hR⟩ : ∃ L b, splitR s.data.toList = (L, b) := ⟨_, _, rfl⟩
  rw [hR] at HS HR hl
  have HL := hide hl
  clear hl hR H1 H2 H3
  go_enter Tryd.func7, Tryd.ntmps7
  go_wp2_with (first
    | (go_at_call 21; (with_reducible refine Calls.mono (HS.out _ (HE.out _ (Below.refl _ _))) ?_); rintro e w5 ⟨v1, rfl, h1, h2⟩; have HT5 := hide h1; have HB5 := hide h2; clear h1 h2)
    | (go_at_call 22; (with_reducible refine Calls.mono (HR.out _) ?_); rintro e w6 ⟨v2, rfl, h1, h2⟩; have HU6 := hide (stAt_own h1); have HT6 := hide (HT5.out.later h2); have HB6 := hide (below_trans HB5.out h2); clear h1 h2)
    | (go_at_call 11; (with_reducible refine Calls.mono (HH.out _ (HE.out _ HB6.out)) ?_); rintro e w7 ⟨rfl, h2⟩; have HB7 := hide (below_trans HB6.out h2); have HE7 := hide (fun V (hV : V = w7) => sametexts_e w7 v1 v2 L L (HT6.out.later h2) (HU6.out.later h2) HL.out); clear h2)
    | (go_at_call 23; (with_reducible refine Calls.mono (HE7.out _ rfl) ?_); rintro e w8 ⟨rfl, h2⟩; have HB8 := hide (below_trans HB7.out h2); clear h2; simp only [decide_true]))
  go_ret
  exact ⟨rfl, HB8.out⟩
end Go.Proofs.YtkooijhdjjdigaaDoor
