/- The document's Encode of any row. -/
import Derived.Test.YtfjmoiooonialaaHB
import Derived.Laws.Concat
namespace Go.Proofs.Ytfjmoiooonialaa
open Go.ChangeShapes Go.WideShapes Go.ChangeAt Go.RowKit
set_option linter.unusedVariables false

theorem cat2 (a b : List UInt8) (h : a.length + b.length ≤ 100000) (V : World) : (Op.stringOp BinOp.add ⟨a.toArray⟩ ⟨b.toArray⟩).run Try.prog V = .ok (.string ⟨(a ++ b).toArray⟩) V := by
  have e : (⟨a.toArray⟩ : ByteArray) ++ (⟨b.toArray⟩ : ByteArray) = ⟨(a ++ b).toArray⟩ := by apply ByteArray.ext; simp
  rw [← e]
  refine run_string_add_sum V _ _ ?_
  rw [szL, szL]
  omega
theorem rput_all (u : Nat) (hu : u < 18446744073709551616) (w : World) : Calls Try.prog 10 #[.int .u64 (u : Int)] w fun e w' => e = .returned (.string ⟨(putL u).toArray⟩) ∧ Below w.heap.size w w' := by
  by_cases h : u < 72057594037927936
  · exact rput_small u h w
  · exact rput_big u hu h w

set_option maxHeartbeats 4000000 in
set_option maxRecDepth 10000 in
theorem rencode_ok (p : Option Addr) (len cap : Nat) (K N : Nat → Int) (T : Nat → ByteArray) (hlen : len ≤ 16) (hall : ∀ i, i < len → mayB (K i) (N i) (T i) = true) (hin : ∀ i, i < len → InI (N i)) (w : World) (h : RowP w p len K N T) :
    Calls Try.prog 14 #[.slice p len cap] w fun e w' => e = .returned (encR (encL len K N T)) ∧ Below w.heap.size w w' := by
  have HRp := hide h
  have HAll := hide hall
  have HIn := hide hin
  have HM : Hid (∀ k n t V, Calls Try.prog 25 #[.agg #[.int .i64 k, .int .i64 n, .string t]] V fun e w' => e = .returned (.bool (mayB k n t)) ∧ Below V.heap.size V w') := fun k n t V => rmay_walk k n t V
  have HPut := hide (rput_all len (by omega))
  have hp9 := putL_le len
  have x1 : (len : Int) % 18446744073709551616 = (len : Int) := by omega
  have l16 : ¬ (16 : Int) < (len : Int) := by omega
  clear h hall hin
  go_enter Try.func14, Try.ntmps14
  go_wp2
  go_loopw [4] (fun iv wr => ∃ j : Nat, j ≤ len ∧ iv = .int .i64 (j : Int) ∧ Below w.heap.size w wr) (fun iv _ => len - (intOf iv).toNat)
  case atStart => exact ⟨0, Nat.zero_le _, rfl, Below.refl _ _⟩
  case round =>
    obtain ⟨j, hj, rfl, hb⟩ := hrel
    have HB := hide hb
    clear hb
    by_cases hlt : j < len
    · have l1 : (j : Int) < (len : Int) := by omega
      have l0 : (0 : Int) ≤ (j : Int) := by omega
      have hw1 : IntKind.i64.wrap ((j : Int) + 1) = (j : Int) + 1 := by rw [IntKind.wrap_i64]; omega
      obtain ⟨b, o, rfl, hr⟩ := HRp.out (by omega)
      obtain ⟨c0, c1, c2⟩ := (hr.later HB.out) j hlt
      clear hr
      have HMj := hide (HAll.out j hlt)
      go_wp2_with (first
        | (go_at_call 25; (with_reducible refine Calls.mono (HM.out _ _ _ _) ?_); rintro e w1 ⟨rfl, hb⟩; have HX := hide (below_trans HB.out hb); clear hb; rw [HMj.out]))
      refine ⟨⟨j + 1, hlt, rfl, HX.out⟩, ?_⟩
      simp only [intOf]; omega
    · have l1 : ¬ (j : Int) < (len : Int) := by omega
      go_wp2_with (first
        | (go_at_call 10; with_reducible refine Calls.mono (HPut.out _) ?_; rintro e w2 ⟨rfl, hb2⟩; have HX2 := hide (below_trans HB.out hb2); clear hb2))
      go_loopw [5, 6, 7] (fun hv bv iv wr => ∃ j : Nat, j ≤ len ∧ iv = .int .i64 (j : Int) ∧ hv = .string ⟨(putL len ++ typL K N T j).toArray⟩ ∧ bv = .string ⟨(bodL K N T j).toArray⟩ ∧ Below w.heap.size w wr) (fun _ _ iv _ => len - (intOf iv).toNat)
      case atStart => exact ⟨0, Nat.zero_le _, rfl, by simp [typL], by simp [bodL], HX2.out⟩
      case round =>
        obtain ⟨j, hj2, rfl, rfl, rfl, hb⟩ := hrel
        have HB2 := hide hb
        clear hb HX2 HB
        by_cases hlt : j < len
        · have l1 : (j : Int) < (len : Int) := by omega
          have l0 : (0 : Int) ≤ (j : Int) := by omega
          have hw1 : IntKind.i64.wrap ((j : Int) + 1) = (j : Int) + 1 := by rw [IntKind.wrap_i64]; omega
          obtain ⟨b, o, rfl, hr⟩ := HRp.out (by omega)
          obtain ⟨c0, c1, c2⟩ := (hr.later HB2.out) j hlt
          clear hr
          obtain ⟨h1, hh1⟩ : ∃ S : ByteArray, (⟨(putL len ++ typL K N T j).toArray⟩ : ByteArray) = S := ⟨_, rfl⟩
          obtain ⟨h2, hh2⟩ : ∃ S : ByteArray, (⟨(putL (typN (K j) (N j) (T j))).toArray⟩ : ByteArray) = S := ⟨_, rfl⟩
          obtain ⟨h3, hh3⟩ : ∃ S : ByteArray, (⟨(putL len ++ typL K N T (j + 1)).toArray⟩ : ByteArray) = S := ⟨_, rfl⟩
          obtain ⟨b1, hb1⟩ : ∃ S : ByteArray, (⟨(bodL K N T j).toArray⟩ : ByteArray) = S := ⟨_, rfl⟩
          obtain ⟨b2, hb2⟩ : ∃ S : ByteArray, (⟨(valL (K j) (N j) (T j)).toArray⟩ : ByteArray) = S := ⟨_, rfl⟩
          obtain ⟨b3, hb3⟩ : ∃ S : ByteArray, (⟨(bodL K N T (j + 1)).toArray⟩ : ByteArray) = S := ⟨_, rfl⟩
          have ht := typN_lt (HAll.out j hlt) (HIn.out j hlt)
          have q1 := putL_le (typN (K j) (N j) (T j))
          have q2 := typL_le K N T j
          have q3 := valL_le (HAll.out j hlt)
          have q4 := bodL_le HAll.out j (by omega)
          have hadd : ∀ V, (Op.stringOp BinOp.add h1 h2).run Try.prog V = .ok (.string h3) V := fun V => by
            rw [← hh1, ← hh2, ← hh3, typL, ← List.append_assoc]
            exact cat2 _ _ (by rw [List.length_append]; omega) V
          have hadd2 : ∀ V, (Op.stringOp BinOp.add b1 b2).run Try.prog V = .ok (.string b3) V := fun V => by
            rw [← hb1, ← hb2, ← hb3, bodL]
            exact cat2 _ _ (by omega) V
          obtain ⟨t, htt⟩ : ∃ t, typN (K j) (N j) (T j) = t := ⟨_, rfl⟩
          have HSh : Hid (∀ V, Calls Try.prog 26 #[.agg #[.int .i64 (K j), .int .i64 (N j), .string (T j)]] V fun e w' => e = .returned (.tuple #[.int .i64 (t : Int), .string b2]) ∧ Below V.heap.size V w') := fun V => by
            rw [← htt, ← hb2]; exact shape_walk (K j) (N j) (T j) (HAll.out j hlt) (HIn.out j hlt) V
          have HPV : Hid (∀ V, Calls Try.prog 10 #[.int .u64 (t : Int)] V fun e w' => e = .returned (.string h2) ∧ Below V.heap.size V w') := fun V => by
            rw [← hh2, htt]; exact rput_all t (by omega) V
          have x2 : (t : Int) % 18446744073709551616 = (t : Int) := by omega
          have HH3 := hide hh3
          have HB3 := hide hb3
          rw [hh1, hb1]
          clear hh1 hh2 hh3 hb1 hb2 hb3 ht q1 q2 q3 q4 htt
          go_wp2_with (first
            | (go_at_call 26; with_reducible refine Calls.mono (HSh.out _) ?_; rintro e w3 ⟨rfl, hb⟩; have HX3 := hide (below_trans HB2.out hb); clear hb)
            | (go_at_call 10; with_reducible refine Calls.mono (HPV.out _) ?_; rintro e w4 ⟨rfl, hb⟩; have HX4 := hide (below_trans HX3.out hb); clear hb))
          refine ⟨⟨j + 1, hlt, rfl, by rw [HH3.out], by rw [HB3.out], HX4.out⟩, ?_⟩
          simp only [intOf]; omega
        · have l1 : ¬ (j : Int) < (len : Int) := by omega
          obtain rfl : len = j := by omega
          have q2 := typL_le K N T len
          have q4 := bodL_le HAll.out len (by omega)
          obtain ⟨H1, hH1⟩ : ∃ l, putL len ++ typL K N T len = l := ⟨_, rfl⟩
          obtain ⟨B1, hB1⟩ : ∃ l, bodL K N T len = l := ⟨_, rfl⟩
          have hl1 : H1.length ≤ 200 := by rw [← hH1, List.length_append]; omega
          have hl2 : B1.length ≤ 7000 := by rw [← hB1]; omega
          have HE : Hid (encL len K N T = H1 ++ B1) := by show _ = _; rw [← hH1, ← hB1]; rfl
          have hadd := cat2 H1 B1 (by omega)
          obtain ⟨h1, hh1⟩ : ∃ S : ByteArray, (⟨H1.toArray⟩ : ByteArray) = S := ⟨_, rfl⟩
          obtain ⟨b1, hb1⟩ : ∃ S : ByteArray, (⟨B1.toArray⟩ : ByteArray) = S := ⟨_, rfl⟩
          obtain ⟨s1, hs1⟩ : ∃ S : ByteArray, (⟨(H1 ++ B1).toArray⟩ : ByteArray) = S := ⟨_, rfl⟩
          rw [hh1, hb1, hs1] at hadd
          have z1 : h1.size = H1.length := by rw [← hh1, szL]
          have z2 : b1.size = B1.length := by rw [← hb1, szL]
          have hsum : IntKind.i64.wrap ((H1.length : Int) + (B1.length : Int)) = (((H1 ++ B1).length : Nat) : Int) := by rw [IntKind.wrap_i64, List.length_append]; omega
          rw [hH1, hB1, hh1, hb1]
          have HS1 := hide hs1
          clear hH1 hB1 hh1 hb1 hs1 q2 q4
          generalize H1 ++ B1 = E at HE hsum HS1
          by_cases h4 : 4000 < E.length
          · have l4 : (4000 : Int) < (E.length : Int) := by omega
            go_wp2_with fail
            go_ret2
            exact ⟨by rw [HE.out, encR_long h4]; rfl, HB2.out⟩
          · have l4 : ¬ (4000 : Int) < (E.length : Int) := by omega
            go_wp2_with fail
            go_ret2
            exact ⟨by rw [HE.out, encR_ok h4, HS1.out]; rfl, HB2.out⟩
end Go.Proofs.Ytfjmoiooonialaa
