/- Encode of any row. -/
import Derived.Test.YtfjmoiooonialaaFD
namespace Go.Proofs.Ytfjmoiooonialaa
open Go.ChangeShapes Go.WideShapes Go.ChangeAt Go.RowKit
set_option linter.unusedVariables false

def typL (K N : Nat → Int) (T : Nat → ByteArray) : Nat → List UInt8
  | 0 => []
  | m + 1 => typL K N T m ++ putL (typN (K m) (N m) (T m))
def bodL (K N : Nat → Int) (T : Nat → ByteArray) : Nat → List UInt8
  | 0 => []
  | m + 1 => bodL K N T m ++ valL (K m) (N m) (T m)
/-- What a row is written as. -/
def encL (len : Nat) (K N : Nat → Int) (T : Nat → ByteArray) : List UInt8 := putL len ++ typL K N T len ++ bodL K N T len
/-- What Encode answers of what a row is written as. -/
def encR (l : List UInt8) : Value := if 4000 < l.length then .tuple #[.string ⟨#[]⟩, .int .i64 3] else .tuple #[.string ⟨l.toArray⟩, .int .i64 0]
theorem encR_long {l : List UInt8} (h : 4000 < l.length) : encR l = .tuple #[.string ⟨#[]⟩, .int .i64 3] := if_pos h
theorem encR_ok {l : List UInt8} (h : ¬ 4000 < l.length) : encR l = .tuple #[.string ⟨l.toArray⟩, .int .i64 0] := if_neg h
theorem putL_le (u : Nat) : (putL u).length ≤ 9 := by rw [putL_length]; exact (vsz_pos u).2
theorem typL_le (K N : Nat → Int) (T : Nat → ByteArray) (m : Nat) : (typL K N T m).length ≤ 9 * m := by
  induction m with
  | zero => simp [typL]
  | succ m ih =>
    have := putL_le (typN (K m) (N m) (T m))
    simp only [typL, List.length_append]
    omega
theorem valL_le {k n : Int} {t : ByteArray} (h : mayB k n t = true) : (valL k n t).length ≤ 408 := by
  have h1 := may_size h
  have h2 : t.data.toList.length = t.size := by simp
  unfold valL
  rw [List.length_append, h2]
  split
  · rw [beN_length]; omega
  · simp; omega
theorem bodL_le {K N : Nat → Int} {T : Nat → ByteArray} {len : Nat} (h : ∀ i, i < len → mayB (K i) (N i) (T i) = true) (m : Nat) (hm : m ≤ len) : (bodL K N T m).length ≤ 408 * m := by
  induction m with
  | zero => simp [bodL]
  | succ m ih =>
    have := valL_le (h m (by omega))
    have := ih (by omega)
    simp only [bodL, List.length_append]
    omega
theorem OwnE.mono {w : World} {base base' : Nat} {v : Value} {l : List UInt8} (h : OwnE w base v l) (hb : base' ≤ base) : OwnE w base' v l := by
  obtain ⟨g, cap, cur, fz, h1, h2, h3⟩ := h
  exact ⟨g, cap, cur, fz, h1, by omega, h3⟩
theorem OwnE.form {w : World} {base : Nat} {v : Value} {l : List UInt8} (h : OwnE w base v l) : ∃ g c, v = .slice (some ⟨g, 0, none⟩) l.length c := by
  obtain ⟨g, c, _, _, hv, _⟩ := h
  exact ⟨g, c, hv⟩
theorem toL (l : List UInt8) : (⟨l.toArray⟩ : ByteArray).data.toList = l := by simp
theorem szL (l : List UInt8) : (⟨l.toArray⟩ : ByteArray).size = l.length := by simp [ByteArray.size]

set_option maxHeartbeats 4000000 in
set_option maxRecDepth 10000 in
theorem encode_ok (p : Option Addr) (len cap : Nat) (K N : Nat → Int) (T : Nat → ByteArray) (hlen : len ≤ 16) (hall : ∀ i, i < len → mayB (K i) (N i) (T i) = true) (hin : ∀ i, i < len → InI (N i)) (w : World) (h : RowP w p len K N T) :
    Calls Try.prog 13 #[.slice p len cap] w fun e w' => e = .returned (encR (encL len K N T)) ∧ Below w.heap.size w w' := by
  have HCK := hide (check_any p len cap K N T (by omega) w h)
  have HC0 := hide (chk_ok hall (by omega))
  have HRp := hide h
  have HAll := hide hall
  have HIn := hide hin
  obtain ⟨S, hS⟩ : ∃ S : ByteArray, S = ⟨(putL len).toArray⟩ := ⟨_, rfl⟩
  have HPut : Hid (∀ V, Calls Try.prog 9 #[.int .u64 (len : Int)] V fun e w' => e = .returned (.string S) ∧ Below V.heap.size V w') := fun V => by rw [hS]; exact put_walk len (by omega) V
  have hcv : ∀ V, (convert 9 42 (.string S)).run Try.prog V = .ok (.slice (some ⟨V.heap.size, 0, none⟩) S.size (grownCap V S.size 0 5)) (Lib.bytesWorld V 5 S) := fun V => Lib.run_convert_string_bytes V 9 42 5 S Try.underlying9 Try.underlying42 Try.underlying5
  have HSl : Hid (S.data.toList = putL len) := by show _ = _; rw [hS]
  have HSz : Hid (S.size = (putL len).length) := by show _ = _; rw [hS, szL]
  have hp0 : 0 < (putL len).length := by rw [putL_length]; have := (vsz_pos len).1; omega
  have hp9 := putL_le len
  have x1 : (len : Int) % 18446744073709551616 = (len : Int) := by omega
  clear h hall hin hS
  go_enter Try.func13, Try.ntmps13
  go_wp2_with (first
    | (go_at_call 22; with_reducible refine Calls.mono HCK.out ?_; rintro e w1 ⟨rfl, hb1⟩; rw [HC0.out]; have HX1 := hide hb1; clear hb1)
    | (go_at_call 9; with_reducible refine Calls.mono (HPut.out _) ?_; rintro e w2 ⟨rfl, hb2⟩; have HX2 := hide (below_trans HX1.out hb2); clear hb2))
  go_name_world u0 hu0
  have hSz := HSz.out
  obtain ⟨ho0, hb0⟩ := made_ownE w2 S (by omega) (by omega)
  clear hSz
  rw [hu0, HSl.out] at ho0
  rw [hu0] at hb0
  obtain ⟨v0, hv0⟩ : ∃ v, Value.slice (some ⟨w2.heap.size, 0, none⟩) S.size (grownCap w2 S.size 0 5) = v := ⟨_, rfl⟩
  rw [hv0] at ho0
  rw [hv0]
  have HO0 : Hid (OwnE u0 w.heap.size v0 (putL len)) := ho0.mono HX2.out.size
  have HU0 : Hid (Below w.heap.size w u0) := below_trans HX2.out hb0
  clear ho0 hb0 hu0 hv0 hcv HSl HSz hp0 HPut HX1 HX2 HCK HC0
  go_loopw [5, 22] (fun bv iv wr => ∃ j : Nat, j ≤ len ∧ iv = .int .i64 (j : Int) ∧ OwnE wr w.heap.size bv (putL len ++ typL K N T j) ∧ Below w.heap.size w wr) (fun _ iv _ => len - (intOf iv).toNat)
  case atStart => exact ⟨0, Nat.zero_le _, rfl, by simpa [typL] using HO0.out, HU0.out⟩
  case round =>
    obtain ⟨j, hj, rfl, ho, hb⟩ := hrel
    have HO := hide ho
    have HB := hide hb
    clear ho hb HO0 HU0
    by_cases hlt : j < len
    · have l1 : (j : Int) < (len : Int) := by omega
      have l0 : (0 : Int) ≤ (j : Int) := by omega
      have hw1 : IntKind.i64.wrap ((j : Int) + 1) = (j : Int) + 1 := by rw [IntKind.wrap_i64]; omega
      obtain ⟨b, o, rfl, hr⟩ := HRp.out (by omega)
      obtain ⟨c0, c1, c2⟩ := (hr.later HB.out) j hlt
      clear hr
      have HTY := hide (type_walk (K j) (N j) (T j) (HAll.out j hlt) (HIn.out j hlt))
      have ht := typN_lt (HAll.out j hlt) (HIn.out j hlt)
      have HPV := hide (put_walk (typN (K j) (N j) (T j)) (by omega))
      have HNl := hide (new_below wr (.cells #[.int .i64 (K j), .int .i64 (N j), .string (T j)] 46) rfl)
      have HLn := hide (show (putL len ++ typL K N T j).length + (⟨(putL (typN (K j) (N j) (T j))).toArray⟩ : ByteArray).size ≤ 100000 by rw [szL, List.length_append]; have := putL_le (typN (K j) (N j) (T j)); have := typL_le K N T j; omega)
      have HTL : Hid (putL len ++ typL K N T (j + 1) = (putL len ++ typL K N T j) ++ (⟨(putL (typN (K j) (N j) (T j))).toArray⟩ : ByteArray).data.toList) := by show _ = _; rw [toL, List.append_assoc]; rfl
      clear ht
      go_wp2_with (first
        | (go_at_call 23; with_reducible refine Calls.mono (HTY.out _) ?_; rintro e x0 ⟨rfl, hx⟩; have HX0 := hide (below_trans HNl.out hx); clear hx)
        | (go_at_call 9; with_reducible refine Calls.mono (HPV.out _) ?_; rintro e y0 ⟨rfl, hy⟩; have HY0 := hide (below_trans HX0.out hy); have HOy := hide (HO.out.later (B := 0) (below_trans HX0.out hy)); have HBy := hide (below_trans HB.out (below_trans HX0.out hy)); clear hy)
        | (at_builtin; refine wp_text (by rfl) _ _ (by rfl) w.heap.size _ (putL len ++ typL K N T j) _ (by rfl) HOy.out (by rfl) HLn.out HBy.out.size ?_; intro v1 z0 ho hb hk; have HO1 := hide ho; have HB1 := hide (HBy.out.trans hb); clear ho hb hk))
      refine ⟨⟨j + 1, hlt, rfl, by rw [HTL.out]; exact HO1.out, HB1.out⟩, ?_⟩
      simp only [intOf]; omega
    · have l1 : ¬ (j : Int) < (len : Int) := by omega
      obtain rfl : len = j := by omega
      go_wp2_with fail
      go_loopw [5, 34] (fun bv iv wr => ∃ j : Nat, j ≤ len ∧ iv = .int .i64 (j : Int) ∧ OwnE wr w.heap.size bv (putL len ++ typL K N T len ++ bodL K N T j) ∧ Below w.heap.size w wr) (fun _ iv _ => len - (intOf iv).toNat)
      case atStart => exact ⟨0, Nat.zero_le _, rfl, by simpa [bodL] using HO.out, HB.out⟩
      case round =>
        obtain ⟨j, hj2, rfl, ho, hb⟩ := hrel
        have HO2 := hide ho
        have HB2 := hide hb
        clear ho hb HO HB
        by_cases hlt : j < len
        · have l1 : (j : Int) < (len : Int) := by omega
          have l0 : (0 : Int) ≤ (j : Int) := by omega
          have hw1 : IntKind.i64.wrap ((j : Int) + 1) = (j : Int) + 1 := by rw [IntKind.wrap_i64]; omega
          obtain ⟨b, o, rfl, hr⟩ := HRp.out (by omega)
          obtain ⟨c0, c1, c2⟩ := (hr.later HB2.out) j hlt
          clear hr
          have HNl := hide (new_below wr (.cells #[.int .i64 (K j), .int .i64 (N j), .string (T j)] 46) rfl)
          have HNw := hide (below_trans HB2.out HNl.out)
          have HAP := hide (append_walk w.heap.size _ (putL len ++ typL K N T len ++ bodL K N T j) (K j) (N j) (T j) (HAll.out j hlt) (HIn.out j hlt) (by rw [List.length_append, List.length_append]; have := typL_le K N T len; have := bodL_le HAll.out j (by omega); omega) _ (HO2.out.later (B := 0) HNl.out) HNw.out.size)
          have HTL : Hid (putL len ++ typL K N T len ++ bodL K N T (j + 1) = (putL len ++ typL K N T len ++ bodL K N T j) ++ valL (K j) (N j) (T j)) := by show _ = _; rw [List.append_assoc (putL len ++ typL K N T len)]; rfl
          go_wp2_with (first
            | (go_at_call 24; with_reducible refine Calls.mono HAP.out ?_; rintro e z0 ⟨v1, rfl, ho, hb⟩; have HO3 := hide ho; have HB3 := hide (HNw.out.trans hb); clear ho hb))
          refine ⟨⟨j + 1, hlt, rfl, by rw [HTL.out]; exact HO3.out, HB3.out⟩, ?_⟩
          simp only [intOf]; omega
        · have l1 : ¬ (j : Int) < (len : Int) := by omega
          obtain rfl : len = j := by omega
          obtain ⟨E, hE⟩ : ∃ E, putL len ++ typL K N T len ++ bodL K N T len = E := ⟨_, rfl⟩
          rw [hE] at HO2
          have HE : Hid (encL len K N T = E) := hE
          clear hE
          have hcv := conv_ownE HO2.out
          obtain ⟨g, c, rfl⟩ := HO2.out.form
          by_cases h4 : 4000 < E.length
          · have l4 : (4000 : Int) < (E.length : Int) := by omega
            go_wp2_with fail
            go_ret2
            exact ⟨by rw [HE.out, encR_long h4]; rfl, HB2.out⟩
          · have l4 : ¬ (4000 : Int) < (E.length : Int) := by omega
            go_wp2_with fail
            go_ret2
            exact ⟨by rw [HE.out, encR_ok h4]; rfl, HB2.out⟩

set_option maxHeartbeats 1000000 in
theorem encode_bad (p : Option Addr) (len cap : Nat) (K N : Nat → Int) (T : Nat → ByteArray) (hlen : len ≤ 140737488355328) (hc : chk len K N T ≠ 0) (w : World) (h : RowP w p len K N T) :
    Calls Try.prog 13 #[.slice p len cap] w fun e w' => e = .returned (.tuple #[.string ⟨#[]⟩, .int .i64 (chk len K N T)]) ∧ Below w.heap.size w w' := by
  have HCK := hide (check_any p len cap K N T hlen w h)
  clear h
  generalize chk len K N T = c at HCK hc
  go_enter Try.func13, Try.ntmps13
  go_wp2_with (first
    | (go_at_call 22; with_reducible refine Calls.mono HCK.out ?_; rintro e w1 ⟨rfl, hb1⟩; have HX1 := hide hb1; clear hb1))
  go_ret2
  exact ⟨rfl, HX1.out⟩
open Classical in
/-- Encode of any row: the text, and the error. -/
theorem encode_any (len : Nat) (K N : Nat → Int) (T : Nat → ByteArray) (hlen : len ≤ 140737488355328) (hin : ∀ i, i < len → InI (N i)) : ∃ (s : ByteArray) (E : Int), ∀ (p : Option Addr) (cap : Nat) (w : World), RowP w p len K N T →
    Calls Try.prog 13 #[.slice p len cap] w fun e w' => e = .returned (.tuple #[.string s, .int .i64 E]) ∧ Below w.heap.size w w' := by
  by_cases hc : chk len K N T = 0
  · have hall : ∀ i, i < len → mayB (K i) (N i) (T i) = true := by
      intro i hi
      cases hm : mayB (K i) (N i) (T i) with
      | true => rfl
      | false => rw [chk_bad hi hm] at hc; cases hc
    have h16 : len ≤ 16 := by
      refine Nat.le_of_not_lt fun h => ?_
      rw [chk_long hall h] at hc; cases hc
    by_cases h4 : 4000 < (encL len K N T).length
    · exact ⟨⟨#[]⟩, 3, fun p cap w h => (encode_ok p len cap K N T h16 hall hin w h).mono fun e w' ⟨h1, h2⟩ => ⟨by rw [h1, encR_long h4], h2⟩⟩
    · exact ⟨⟨(encL len K N T).toArray⟩, 0, fun p cap w h => (encode_ok p len cap K N T h16 hall hin w h).mono fun e w' ⟨h1, h2⟩ => ⟨by rw [h1, encR_ok h4], h2⟩⟩
  · exact ⟨⟨#[]⟩, chk len K N T, fun p cap w h => encode_bad p len cap K N T hlen hc w h⟩
end Go.Proofs.Ytfjmoiooonialaa
