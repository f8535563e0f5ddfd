/- The document's Encode refuses what the program refuses; the walk of RecordEncode. -/
import Derived.Test.YtfjmoiooonialaaHC
import Derived.Test.YtfjmoiooonialaaEF
import Derived.Test.YtfjmoiooonialaaSU
namespace Go.Proofs.Ytfjmoiooonialaa
open Go.ChangeShapes Go.WideShapes Go.ChangeAt Go.RowKit
set_option linter.unusedVariables false

set_option maxHeartbeats 2000000 in
set_option maxRecDepth 10000 in
theorem rencode_bad (p : Option Addr) (len cap : Nat) (K N : Nat → Int) (T : Nat → ByteArray) (hlen : len ≤ 140737488355328) (hc : chk len K N T ≠ 0) (w : World) (h : RowP w p len K N T) :
    Calls Try.prog 14 #[.slice p len cap] w fun e w' => e = .returned (.tuple #[.string ⟨#[]⟩, .int .i64 (chk len K N T)]) ∧ Below w.heap.size w w' := by
  have HRp := hide h
  have HM : Hid (∀ k n t V, Calls Try.prog 25 #[.agg #[.int .i64 k, .int .i64 n, .string t]] V fun e w' => e = .returned (.bool (mayB k n t)) ∧ Below V.heap.size V w') := fun k n t V => rmay_walk k n t V
  have HC := hide hc
  clear h hc
  go_enter Try.func14, Try.ntmps14
  go_wp2
  go_loopw [4] (fun iv wr => ∃ j : Nat, j ≤ len ∧ iv = .int .i64 (j : Int) ∧ (∀ i, i < j → mayB (K i) (N i) (T i) = true) ∧ Below w.heap.size w wr) (fun iv _ => len - (intOf iv).toNat)
  case atStart => exact ⟨0, Nat.zero_le _, rfl, fun i h => by omega, Below.refl _ _⟩
  case round =>
    obtain ⟨j, hj, rfl, hall, hb⟩ := hrel
    have HA := hide hall
    have HB := hide hb
    clear hall hb
    by_cases hlt : j < len
    · have l1 : (j : Int) < (len : Int) := by omega
      have l0 : (0 : Int) ≤ (j : Int) := by omega
      have hw1 : IntKind.i64.wrap ((j : Int) + 1) = (j : Int) + 1 := by rw [IntKind.wrap_i64]; omega
      obtain ⟨b, o, rfl, hr⟩ := HRp.out (by omega)
      obtain ⟨c0, c1, c2⟩ := (hr.later HB.out) j hlt
      clear hr
      cases hm : mayB (K j) (N j) (T j)
      · have HMj := hide hm
        go_wp2_with (first
          | (go_at_call 25; (with_reducible refine Calls.mono (HM.out _ _ _ _) ?_); rintro e w1 ⟨rfl, hb⟩; have HX := hide (below_trans HB.out hb); clear hb; rw [HMj.out]))
        go_ret2
        exact ⟨by rw [chk_bad hlt HMj.out]; rfl, HX.out⟩
      · have HMj := hide hm
        go_wp2_with (first
          | (go_at_call 25; (with_reducible refine Calls.mono (HM.out _ _ _ _) ?_); rintro e w1 ⟨rfl, hb⟩; have HX := hide (below_trans HB.out hb); clear hb; rw [HMj.out]))
        refine ⟨⟨j + 1, hlt, rfl, fun i hi => ?_, HX.out⟩, ?_⟩
        · by_cases e : i = j
          · subst e; exact HMj.out
          · exact HA.out i (by omega)
        · simp only [intOf]
          omega
    · have l1 : ¬ (j : Int) < (len : Int) := by omega
      have hall : ∀ i, i < len → mayB (K i) (N i) (T i) = true := fun i hi => HA.out i (by omega)
      have HCa := hide hall
      clear hall
      by_cases h16 : 16 < len
      · have l2 : (16 : Int) < (len : Int) := by omega
        go_wp2_with fail
        go_ret2
        exact ⟨by rw [chk_long HCa.out h16]; rfl, HB.out⟩
      · exact absurd (chk_ok HCa.out h16) HC.out
theorem rowP_of {w : World} {b o len : Nat} {K N : Nat → Int} {T : Nat → ByteArray} (h : RowAt w b o len K N T) : RowP w (some ⟨b, o, none⟩) len K N T := fun _ => ⟨b, o, rfl, h⟩
open Classical in
/-- Both write any row alike, or refuse it alike. -/
theorem encode_both (len : Nat) (K N : Nat → Int) (T : Nat → ByteArray) (hlen : len ≤ 140737488355328) (hin : ∀ i, i < len → InI (N i)) : ∃ (s : ByteArray) (E : Int), ∀ (p : Option Addr) (cap : Nat) (w : World), RowP w p len K N T →
    (Calls Try.prog 13 #[.slice p len cap] w fun e w' => e = .returned (.tuple #[.string s, .int .i64 E]) ∧ Below w.heap.size w w') ∧
    (Calls Try.prog 14 #[.slice p len cap] w fun e w' => e = .returned (.tuple #[.string s, .int .i64 E]) ∧ Below w.heap.size w w') := by
  by_cases hc : chk len K N T = 0
  · have hall : ∀ i, i < len → mayB (K i) (N i) (T i) = true := by
      intro i hi
      cases hm : mayB (K i) (N i) (T i) with
      | true => rfl
      | false => rw [chk_bad hi hm] at hc; cases hc
    have h16 : len ≤ 16 := by
      refine Nat.le_of_not_lt fun h => ?_
      rw [chk_long hall h] at hc; cases hc
    by_cases h4 : 4000 < (encL len K N T).length
    · exact ⟨⟨#[]⟩, 3, fun p cap w h => ⟨(encode_ok p len cap K N T h16 hall hin w h).mono fun e w' ⟨h1, h2⟩ => ⟨by rw [h1, encR_long h4], h2⟩, (rencode_ok p len cap K N T h16 hall hin w h).mono fun e w' ⟨h1, h2⟩ => ⟨by rw [h1, encR_long h4], h2⟩⟩⟩
    · exact ⟨⟨(encL len K N T).toArray⟩, 0, fun p cap w h => ⟨(encode_ok p len cap K N T h16 hall hin w h).mono fun e w' ⟨h1, h2⟩ => ⟨by rw [h1, encR_ok h4], h2⟩, (rencode_ok p len cap K N T h16 hall hin w h).mono fun e w' ⟨h1, h2⟩ => ⟨by rw [h1, encR_ok h4], h2⟩⟩⟩
  · exact ⟨⟨#[]⟩, chk len K N T, fun p cap w h => ⟨encode_bad p len cap K N T hlen hc w h, rencode_bad p len cap K N T hlen hc w h⟩⟩

set_option maxHeartbeats 2000000 in
set_option maxRecDepth 10000 in
theorem recenc_walk (p : Option Addr) (len cap : Nat) (hp : p = none → cap = 0) (K N : Nat → Int) (T : Nat → ByteArray) (hin : ∀ i, i < len → InI (N i)) (w : World) (h : RowP w p len K N T) :
    Calls Try.prog 4 #[.slice p len cap] w fun e w' => e = .returned (.bool true) ∧ Below w.heap.size w w' := by
  by_cases hfar : 2000 < len
  · have l1 : (2000 : Int) < (len : Int) := by omega
    have HAW := hide (awake_walk w)
    clear h
    go_enter Try.func4, Try.ntmps4
    go_wp2_with (first
      | (go_at_call 11; with_reducible refine Calls.mono HAW.out ?_; rintro e w1 ⟨rfl, hb⟩; have HX := hide hb; clear hb))
    go_ret
    exact ⟨rfl, HX.out⟩
  · have l1 : ¬ (2000 : Int) < (len : Int) := by omega
    obtain ⟨s, E, henc⟩ := encode_both len K N T (by omega) hin
    have HO1 := hide (own_walk p len cap hp K N T (by omega) w h)
    have HEn := hide henc
    have HRp : Hid (∀ V, Below w.heap.size w V → RowP V p len K N T) := fun V hV => h.later hV
    have HLn := hide (show len ≤ 140737488355328 by omega)
    clear h henc hin hp
    go_enter Try.func4, Try.ntmps4
    go_wp2_with (first
      | (go_at_call 12; with_reducible refine Calls.mono HO1.out ?_; rintro e w1 ⟨g, c, rfl, hc1, hr1, hm1, hb1⟩; have HC1 := hide hc1; have HR1 := hide hr1; have HM1 := hide hm1; have HB1 := hide hb1; have HQ1 := hide (HEn.out (some ⟨g, 0, none⟩) c w1 (rowP_of hr1)).1; clear hc1 hr1 hm1 hb1)
      | (go_at_call 13; with_reducible refine Calls.mono HQ1.out ?_; rintro e w2 ⟨rfl, hb2⟩; have HK2 := hide hb2; have HB2 := hide (below_trans HB1.out hb2); have HQ2 := hide (HEn.out p cap w2 (HRp.out _ (below_trans HB1.out hb2))).2; clear hb2)
      | (go_at_call 14; with_reducible refine Calls.mono HQ2.out ?_; rintro e w3 ⟨rfl, hb3⟩; have HB3 := hide (below_trans HB2.out hb3); have HQ3 := hide (kept_walk g len c p cap HC1.out HLn.out K N T w3 ((HR1.out.later HK2.out).later hb3) (cell_later hb3 (cell_later HK2.out HM1.out)) (HRp.out _ (below_trans HB2.out hb3))); clear hb3)
      | (go_at_call 15; with_reducible refine Calls.mono HQ3.out ?_; rintro e w4 ⟨rfl, hb4⟩; have HB4 := hide (below_trans HB3.out hb4); clear hb4)
      | (go_at_call 11; with_reducible refine Calls.mono (awake_walk _) ?_; rintro e w5 ⟨rfl, hb5⟩; have HB5 := hide (below_trans HB4.out hb5); clear hb5))
    go_ret
    exact ⟨by simp, HB5.out⟩
end Go.Proofs.Ytfjmoiooonialaa
