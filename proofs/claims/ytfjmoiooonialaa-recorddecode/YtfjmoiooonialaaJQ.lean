/- The walk of RecordBack. -/
import Derived.Test.YtfjmoiooonialaaJP
import Derived.Test.YtfjmoiooonialaaHD
namespace Go.Proofs.Ytfjmoiooonialaa
open Go.ChangeShapes Go.WideShapes Go.ChangeAt Go.RowKit
set_option linter.unusedVariables false

theorem KV_row (len : Nat) (K N : Nat → Int) (T : Nat → ByteArray) {i : Nat} (hi : i < len) : KV (rowV len K N T) i = K i ∧ NV (rowV len K N T) i = N i ∧ TV (rowV len K N T) i = T i := by
  simp [KV, NV, TV, rowV, hi]
/-- What Encode answers of a row. -/
structure EncIs (len : Nat) (K N : Nat → Int) (T : Nat → ByteArray) (x : ByteArray) (E : Int) : Prop where
  call : ∀ (p : Option Addr) (cap : Nat) (w : World), RowP w p len K N T → Calls Try.prog 13 #[.slice p len cap] w fun e w' => e = .returned (.tuple #[.string x, .int .i64 E]) ∧ Below w.heap.size w w'
  ok : E = 0 → len ≤ 16 ∧ (∀ v ∈ rowV len K N T, okV v) ∧ (encV (rowV len K N T)).length ≤ 4000 ∧ x = ⟨(encV (rowV len K N T)).toArray⟩
open Classical in
theorem enc_is (len : Nat) (K N : Nat → Int) (T : Nat → ByteArray) (hlen : len ≤ 140737488355328) (hin : ∀ i, i < len → InI (N i)) : ∃ x E, EncIs len K N T x E := by
  by_cases hc : chk len K N T = 0
  · have hall : ∀ i, i < len → mayB (K i) (N i) (T i) = true := by
      intro i hi
      cases hm : mayB (K i) (N i) (T i) with
      | true => rfl
      | false => rw [chk_bad hi hm] at hc; cases hc
    have h16 : len ≤ 16 := by
      refine Nat.le_of_not_lt fun h => ?_
      rw [chk_long hall h] at hc; cases hc
    by_cases h4 : 4000 < (encL len K N T).length
    · exact ⟨⟨#[]⟩, 3, fun p cap w h => (encode_ok p len cap K N T h16 hall hin w h).mono fun e w' ⟨h1, h2⟩ => ⟨by rw [h1, encR_long h4], h2⟩, fun h => by cases h⟩
    · exact ⟨⟨(encL len K N T).toArray⟩, 0, fun p cap w h => (encode_ok p len cap K N T h16 hall hin w h).mono fun e w' ⟨h1, h2⟩ => ⟨by rw [h1, encR_ok h4], h2⟩, fun _ => ⟨h16, rowV_ok.2 fun i hi => ⟨hall i hi, hin i hi⟩, by rw [← encL_encV]; omega, by rw [encL_encV]⟩⟩
  · exact ⟨⟨#[]⟩, chk len K N T, fun p cap w h => encode_bad p len cap K N T hlen hc w h, fun h => absurd h hc⟩
/-- What is written is read back. -/
theorem dec_row {len : Nat} {K N : Nat → Int} {T : Nat → ByteArray} {x : ByteArray} (h : EncIs len K N T x 0) (w : World) :
    Calls Try.prog 16 #[.string x] w fun e w' => ∃ g, e = .returned (.tuple #[.slice (some ⟨g, 0, none⟩) len len, .int .i64 0]) ∧ RowAt w' g 0 len K N T ∧ Below w.heap.size w w' := by
  obtain ⟨h16, hok, h4, rfl⟩ := h.ok rfl
  have hrd : rdAll (encV (rowV len K N T)) = some (rowV len K N T) := (rdAll_iff _ _).2 ⟨h4, by rw [rowV_length]; exact h16, hok, rfl⟩
  refine (decode_any (encV (rowV len K N T)) w).mono fun e w' hd => ?_
  obtain ⟨g, he, hr, hb⟩ := hd.1 _ hrd
  rw [rowV_length] at he hr
  refine ⟨g, he, fun i hi => ?_, hb⟩
  obtain ⟨e0, e1, e2⟩ := KV_row len K N T hi
  have := hr i hi
  rwa [e0, e1, e2] at this
/-- What a record is read as is written so. -/
theorem enc_read {l : List UInt8} {vs : List Val3} (h : rdAll l = some vs) : EncIs vs.length (KV vs) (NV vs) (TV vs) ⟨l.toArray⟩ 0 := by
  obtain ⟨h4, h16, hok, he⟩ := (rdAll_iff l vs).1 h
  have hok' : ∀ v ∈ rowV vs.length (KV vs) (NV vs) (TV vs), okV v := by rw [rowV_of]; exact hok
  have hm := rowV_ok.1 hok'
  have hl : encL vs.length (KV vs) (NV vs) (TV vs) = l := by rw [encL_encV, rowV_of, he]
  have h4' : ¬ 4000 < (encL vs.length (KV vs) (NV vs) (TV vs)).length := by rw [hl]; omega
  refine ⟨fun p cap w hp => (encode_ok p vs.length cap _ _ _ h16 (fun i hi => (hm i hi).1) (fun i hi => (hm i hi).2) w hp).mono fun e w' ⟨h1, h2⟩ => ⟨by rw [h1, encR_ok h4', hl], h2⟩, fun _ => ⟨h16, hok', ?_, ?_⟩⟩
  · rw [rowV_of, he]; exact h4
  · rw [rowV_of, he]
theorem rowV_inj {len : Nat} {K N K2 N2 : Nat → Int} {T T2 : Nat → ByteArray} (h : rowV len K N T = rowV len K2 N2 T2) : ∀ i, i < len → SameAt K N T K2 N2 T2 i := by
  intro i hi
  obtain ⟨a0, a1, a2⟩ := KV_row len K N T hi
  obtain ⟨b0, b1, b2⟩ := KV_row len K2 N2 T2 hi
  rw [h] at a0 a1 a2
  exact ⟨a0.symm.trans b0, a1.symm.trans b1, a2.symm.trans b2⟩
open Classical in
/-- Two records are the same just where the rows are. -/
theorem same_rec {la lb : Nat} {K N K2 N2 : Nat → Int} {T T2 : Nat → ByteArray} {x y : ByteArray} (ha : EncIs la K N T x 0) (hb : EncIs lb K2 N2 T2 y 0) :
    (x = y → sameR la lb K N T K2 N2 T2 = true) ∧ (x ≠ y → sameR la lb K N T K2 N2 T2 = false) ∧ (x ≠ y → x.size ≤ y.size → y.extract 0 x.size ≠ x) := by
  obtain ⟨a16, aok, a4, rfl⟩ := ha.ok rfl
  obtain ⟨b16, bok, b4, rfl⟩ := hb.ok rfl
  refine ⟨fun e => ?_, fun e => ?_, fun e hl h => ?_⟩
  · have e' : encV (rowV la K N T) = encV (rowV lb K2 N2 T2) := by simpa using e
    have := (enc_inj (by rw [rowV_length]; exact a16) (by rw [rowV_length]; exact b16) aok bok).1 e'
    have hlen : la = lb := by rw [← rowV_length la K N T, this, rowV_length]
    subst hlen
    exact same_yes (rowV_inj this)
  · refine Classical.byContradiction fun hs => e ?_
    have hs : sameR la lb K N T K2 N2 T2 = true := by simpa using hs
    unfold sameR at hs
    obtain ⟨hlen, hs2⟩ := of_decide_eq_true hs
    subst hlen
    have : rowV la K N T = rowV la K2 N2 T2 := by
      apply List.map_congr_left
      intro i hi
      obtain ⟨e0, e1, e2⟩ := hs2 i (List.mem_range.1 hi)
      rw [e0, e1, e2]
    rw [this]
  · apply e
    have e' : (encV (rowV lb K2 N2 T2)).take (encV (rowV la K N T)).length = encV (rowV la K N T) := by
      have := congrArg (fun b => b.data.toList) h
      simp only [ByteArray.data_extract, szL] at this
      simpa using this
    obtain ⟨r, hr⟩ : ∃ r, encV (rowV lb K2 N2 T2) = encV (rowV la K N T) ++ r := ⟨(encV (rowV lb K2 N2 T2)).drop (encV (rowV la K N T)).length, by
      conv => lhs; rw [← List.take_append_drop (encV (rowV la K N T)).length (encV (rowV lb K2 N2 T2)), e']⟩
    have := (enc_prefix (by rw [rowV_length]; exact a16) (by rw [rowV_length]; exact b16) aok bok hr).1
    rw [this]
theorem ne_forms {x y : ByteArray} (h : x ≠ y) : ¬ x = y ∧ (x.toList == y.toList) = false ∧ decide (x = y) = false := by
  have h2 : ¬ x.toList = y.toList := fun e => by rw [ByteArray.toList_eq, ByteArray.toList_eq] at e; exact h (ByteArray.ext (Array.toList_inj.1 e))
  exact ⟨h, by simp [h2], decide_eq_false h⟩

set_option maxHeartbeats 4000000 in
set_option maxRecDepth 10000 in
theorem back_An (pa pb : Option Addr) (la ca lb cb : Nat) (K N : Nat → Int) (T : Nat → ByteArray) (K2 N2 : Nat → Int) (T2 : Nat → ByteArray) (hla : la ≤ 140737488355328) (x y : ByteArray) (Ea Eb : Int) (l : List UInt8) (ha : EncIs la K N T x Ea) (hb : EncIs lb K2 N2 T2 y Eb) (hE : ¬ Ea = 0) (hs : rdAll l = none) (w : World) (h : RowP w pa la K N T) (h2 : RowP w pb lb K2 N2 T2) :
    Calls Try.prog 6 #[.slice pa la ca, .slice pb lb cb, .string ⟨l.toArray⟩] w fun e w' => e = .returned (.bool true) ∧ Below w.heap.size w w' := by
  have HRa : Hid (∀ V, Below w.heap.size w V → RowP V pa la K N T) := fun V hV => h.later hV
  have HRb : Hid (∀ V, Below w.heap.size w V → RowP V pb lb K2 N2 T2) := fun V hV => h2.later hV
  have HX := hide (Below.refl w.heap.size w)
  have HEa : Hid (∀ V, Below w.heap.size w V → Calls Try.prog 13 #[.slice pa la ca] V fun e w' => e = .returned (.tuple #[.string x, .int .i64 Ea]) ∧ Below V.heap.size V w') := fun V hV => ha.call pa ca V (h.later hV)
  have HEb : Hid (∀ V, Below w.heap.size w V → Calls Try.prog 13 #[.slice pb lb cb] V fun e w' => e = .returned (.tuple #[.string y, .int .i64 Eb]) ∧ Below V.heap.size V w') := fun V hV => hb.call pb cb V (h2.later hV)
  have HLa := hide hla
  have hE1 : (Ea == 0) = false := by simp [hE]
  have HDs : Hid (∀ V, Calls Try.prog 16 #[.string ⟨l.toArray⟩] V fun e w' => e = .returned (.tuple #[.slice none 0 0, .int .i64 8]) ∧ Below V.heap.size V w') := fun V => (decode_any l V).mono fun e w' hd => hd.2 hs
  obtain ⟨S, hS⟩ : ∃ S : ByteArray, (⟨l.toArray⟩ : ByteArray) = S := ⟨_, rfl⟩
  rw [hS] at HDs
  rw [hS]
  clear hS hs h h2 ha hb hla
  go_enter Try.func6, Try.ntmps6
  go_wp2_with (first
    | (go_at_call 13; (with_reducible refine Calls.mono (HEa.out _ HX.out) ?_); rintro e w1 ⟨rfl, hb⟩; have HX := hide (below_trans HX.out hb); clear hb)
    | (go_at_call 13; (with_reducible refine Calls.mono (HEb.out _ HX.out) ?_); rintro e w1 ⟨rfl, hb⟩; have HX := hide (below_trans HX.out hb); clear hb)
    | (go_at_call 16; (with_reducible refine Calls.mono (HDs.out _) ?_); rintro e w1 ⟨rfl, hb⟩; have HX := hide (below_trans HX.out hb); clear hb)
    | (go_at_call 11; (with_reducible refine Calls.mono (awake_walk _) ?_); rintro e w1 ⟨rfl, hb⟩; have HX := hide (below_trans HX.out hb); clear hb))
  go_ret
  exact ⟨by simp, HX.out⟩

set_option maxHeartbeats 4000000 in
set_option maxRecDepth 10000 in
theorem back_As (pa pb : Option Addr) (la ca lb cb : Nat) (K N : Nat → Int) (T : Nat → ByteArray) (K2 N2 : Nat → Int) (T2 : Nat → ByteArray) (hla : la ≤ 140737488355328) (x y : ByteArray) (Ea Eb : Int) (l : List UInt8) (ha : EncIs la K N T x Ea) (hb : EncIs lb K2 N2 T2 y Eb) (hE : ¬ Ea = 0) (vs : List Val3) (hs : rdAll l = some vs) (w : World) (h : RowP w pa la K N T) (h2 : RowP w pb lb K2 N2 T2) :
    Calls Try.prog 6 #[.slice pa la ca, .slice pb lb cb, .string ⟨l.toArray⟩] w fun e w' => e = .returned (.bool true) ∧ Below w.heap.size w w' := by
  have HRa : Hid (∀ V, Below w.heap.size w V → RowP V pa la K N T) := fun V hV => h.later hV
  have HRb : Hid (∀ V, Below w.heap.size w V → RowP V pb lb K2 N2 T2) := fun V hV => h2.later hV
  have HX := hide (Below.refl w.heap.size w)
  have HEa : Hid (∀ V, Below w.heap.size w V → Calls Try.prog 13 #[.slice pa la ca] V fun e w' => e = .returned (.tuple #[.string x, .int .i64 Ea]) ∧ Below V.heap.size V w') := fun V hV => ha.call pa ca V (h.later hV)
  have HEb : Hid (∀ V, Below w.heap.size w V → Calls Try.prog 13 #[.slice pb lb cb] V fun e w' => e = .returned (.tuple #[.string y, .int .i64 Eb]) ∧ Below V.heap.size V w') := fun V hV => hb.call pb cb V (h2.later hV)
  have HLa := hide hla
  have hE1 : (Ea == 0) = false := by simp [hE]
  have HDs : Hid (∀ V, Calls Try.prog 16 #[.string ⟨l.toArray⟩] V fun e w' => ∃ g, e = .returned (.tuple #[.slice (some ⟨g, 0, none⟩) vs.length vs.length, .int .i64 0]) ∧ RowAt w' g 0 vs.length (KV vs) (NV vs) (TV vs) ∧ Below V.heap.size V w') := fun V => (decode_any l V).mono fun e w' hd => hd.1 vs hs
  have HEs := hide (enc_read hs).call
  obtain ⟨S, hS⟩ : ∃ S : ByteArray, (⟨l.toArray⟩ : ByteArray) = S := ⟨_, rfl⟩
  rw [hS] at HDs HEs
  rw [hS]
  clear hS hs h h2 ha hb hla
  go_enter Try.func6, Try.ntmps6
  go_wp2_with (first
    | (go_at_call 13; (with_reducible refine Calls.mono (HEa.out _ HX.out) ?_); rintro e w1 ⟨rfl, hb⟩; have HX := hide (below_trans HX.out hb); clear hb)
    | (go_at_call 13; (with_reducible refine Calls.mono (HEb.out _ HX.out) ?_); rintro e w1 ⟨rfl, hb⟩; have HX := hide (below_trans HX.out hb); clear hb)
    | (go_at_call 16; (with_reducible refine Calls.mono (HDs.out _) ?_); rintro e w1 ⟨gs, rfl, hr, hb⟩; have HX := hide (below_trans HX.out hb); have HEn := hide (HEs.out (some ⟨gs, 0, none⟩) vs.length w1 (rowP_of hr)); clear hb hr)
    | (go_at_call 13; (with_reducible refine Calls.mono HEn.out ?_); rintro e w1 ⟨rfl, hb⟩; have HX := hide (below_trans HX.out hb); clear hb)
    | (go_at_call 11; (with_reducible refine Calls.mono (awake_walk _) ?_); rintro e w1 ⟨rfl, hb⟩; have HX := hide (below_trans HX.out hb); clear hb))
  go_ret
  exact ⟨by simp, HX.out⟩

set_option maxHeartbeats 4000000 in
set_option maxRecDepth 10000 in
theorem back_Bn (pa pb : Option Addr) (la ca lb cb : Nat) (K N : Nat → Int) (T : Nat → ByteArray) (K2 N2 : Nat → Int) (T2 : Nat → ByteArray) (hla : la ≤ 140737488355328) (x y : ByteArray) (Ea Eb : Int) (l : List UInt8) (ha : EncIs la K N T x 0) (hb : EncIs lb K2 N2 T2 y Eb) (hE : ¬ Eb = 0) (hs : rdAll l = none) (w : World) (h : RowP w pa la K N T) (h2 : RowP w pb lb K2 N2 T2) :
    Calls Try.prog 6 #[.slice pa la ca, .slice pb lb cb, .string ⟨l.toArray⟩] w fun e w' => e = .returned (.bool true) ∧ Below w.heap.size w w' := by
  have HRa : Hid (∀ V, Below w.heap.size w V → RowP V pa la K N T) := fun V hV => h.later hV
  have HRb : Hid (∀ V, Below w.heap.size w V → RowP V pb lb K2 N2 T2) := fun V hV => h2.later hV
  have HX := hide (Below.refl w.heap.size w)
  have HEa : Hid (∀ V, Below w.heap.size w V → Calls Try.prog 13 #[.slice pa la ca] V fun e w' => e = .returned (.tuple #[.string x, .int .i64 0]) ∧ Below V.heap.size V w') := fun V hV => ha.call pa ca V (h.later hV)
  have HEb : Hid (∀ V, Below w.heap.size w V → Calls Try.prog 13 #[.slice pb lb cb] V fun e w' => e = .returned (.tuple #[.string y, .int .i64 Eb]) ∧ Below V.heap.size V w') := fun V hV => hb.call pb cb V (h2.later hV)
  have HLa := hide hla
  have hE1 : (Eb == 0) = false := by simp [hE]
  have HDx : Hid (∀ V, Calls Try.prog 16 #[.string x] V fun e w' => ∃ g, e = .returned (.tuple #[.slice (some ⟨g, 0, none⟩) la la, .int .i64 0]) ∧ RowAt w' g 0 la K N T ∧ Below V.heap.size V w') := fun V => dec_row ha V
  have HY := hide (same_yes (len := la) (K := K) (N := N) (T := T) (K2 := K) (N2 := N) (T2 := T) (fun i _ => ⟨rfl, rfl, rfl⟩))
  have HDs : Hid (∀ V, Calls Try.prog 16 #[.string ⟨l.toArray⟩] V fun e w' => e = .returned (.tuple #[.slice none 0 0, .int .i64 8]) ∧ Below V.heap.size V w') := fun V => (decode_any l V).mono fun e w' hd => hd.2 hs
  obtain ⟨S, hS⟩ : ∃ S : ByteArray, (⟨l.toArray⟩ : ByteArray) = S := ⟨_, rfl⟩
  rw [hS] at HDs
  rw [hS]
  clear hS hs h h2 ha hb hla
  go_enter Try.func6, Try.ntmps6
  go_wp2_with (first
    | (go_at_call 13; (with_reducible refine Calls.mono (HEa.out _ HX.out) ?_); rintro e w1 ⟨rfl, hb⟩; have HX := hide (below_trans HX.out hb); clear hb)
    | (go_at_call 13; (with_reducible refine Calls.mono (HEb.out _ HX.out) ?_); rintro e w1 ⟨rfl, hb⟩; have HX := hide (below_trans HX.out hb); clear hb)
    | (go_at_call 16; (with_reducible refine Calls.mono (HDx.out _) ?_); rintro e w1 ⟨g, rfl, hr, hb⟩; have HX := hide (below_trans HX.out hb); have HSm := hide (same_walk (some ⟨g, 0, none⟩) pa la la la ca K N T K N T HLa.out w1 (rowP_of hr) (HRa.out _ HX.out)); clear hb hr)
    | (go_at_call 19; (with_reducible refine Calls.mono HSm.out ?_); rintro e w1 ⟨rfl, hb⟩; rw [HY.out]; have HX := hide (below_trans HX.out hb); clear hb)
    | (go_at_call 16; (with_reducible refine Calls.mono (HDs.out _) ?_); rintro e w1 ⟨rfl, hb⟩; have HX := hide (below_trans HX.out hb); clear hb)
    | (go_at_call 11; (with_reducible refine Calls.mono (awake_walk _) ?_); rintro e w1 ⟨rfl, hb⟩; have HX := hide (below_trans HX.out hb); clear hb))
  go_ret
  exact ⟨by simp, HX.out⟩

set_option maxHeartbeats 4000000 in
set_option maxRecDepth 10000 in
theorem back_Bs (pa pb : Option Addr) (la ca lb cb : Nat) (K N : Nat → Int) (T : Nat → ByteArray) (K2 N2 : Nat → Int) (T2 : Nat → ByteArray) (hla : la ≤ 140737488355328) (x y : ByteArray) (Ea Eb : Int) (l : List UInt8) (ha : EncIs la K N T x 0) (hb : EncIs lb K2 N2 T2 y Eb) (hE : ¬ Eb = 0) (vs : List Val3) (hs : rdAll l = some vs) (w : World) (h : RowP w pa la K N T) (h2 : RowP w pb lb K2 N2 T2) :
    Calls Try.prog 6 #[.slice pa la ca, .slice pb lb cb, .string ⟨l.toArray⟩] w fun e w' => e = .returned (.bool true) ∧ Below w.heap.size w w' := by
  have HRa : Hid (∀ V, Below w.heap.size w V → RowP V pa la K N T) := fun V hV => h.later hV
  have HRb : Hid (∀ V, Below w.heap.size w V → RowP V pb lb K2 N2 T2) := fun V hV => h2.later hV
  have HX := hide (Below.refl w.heap.size w)
  have HEa : Hid (∀ V, Below w.heap.size w V → Calls Try.prog 13 #[.slice pa la ca] V fun e w' => e = .returned (.tuple #[.string x, .int .i64 0]) ∧ Below V.heap.size V w') := fun V hV => ha.call pa ca V (h.later hV)
  have HEb : Hid (∀ V, Below w.heap.size w V → Calls Try.prog 13 #[.slice pb lb cb] V fun e w' => e = .returned (.tuple #[.string y, .int .i64 Eb]) ∧ Below V.heap.size V w') := fun V hV => hb.call pb cb V (h2.later hV)
  have HLa := hide hla
  have hE1 : (Eb == 0) = false := by simp [hE]
  have HDx : Hid (∀ V, Calls Try.prog 16 #[.string x] V fun e w' => ∃ g, e = .returned (.tuple #[.slice (some ⟨g, 0, none⟩) la la, .int .i64 0]) ∧ RowAt w' g 0 la K N T ∧ Below V.heap.size V w') := fun V => dec_row ha V
  have HY := hide (same_yes (len := la) (K := K) (N := N) (T := T) (K2 := K) (N2 := N) (T2 := T) (fun i _ => ⟨rfl, rfl, rfl⟩))
  have HDs : Hid (∀ V, Calls Try.prog 16 #[.string ⟨l.toArray⟩] V fun e w' => ∃ g, e = .returned (.tuple #[.slice (some ⟨g, 0, none⟩) vs.length vs.length, .int .i64 0]) ∧ RowAt w' g 0 vs.length (KV vs) (NV vs) (TV vs) ∧ Below V.heap.size V w') := fun V => (decode_any l V).mono fun e w' hd => hd.1 vs hs
  have HEs := hide (enc_read hs).call
  obtain ⟨S, hS⟩ : ∃ S : ByteArray, (⟨l.toArray⟩ : ByteArray) = S := ⟨_, rfl⟩
  rw [hS] at HDs HEs
  rw [hS]
  clear hS hs h h2 ha hb hla
  go_enter Try.func6, Try.ntmps6
  go_wp2_with (first
    | (go_at_call 13; (with_reducible refine Calls.mono (HEa.out _ HX.out) ?_); rintro e w1 ⟨rfl, hb⟩; have HX := hide (below_trans HX.out hb); clear hb)
    | (go_at_call 13; (with_reducible refine Calls.mono (HEb.out _ HX.out) ?_); rintro e w1 ⟨rfl, hb⟩; have HX := hide (below_trans HX.out hb); clear hb)
    | (go_at_call 16; (with_reducible refine Calls.mono (HDx.out _) ?_); rintro e w1 ⟨g, rfl, hr, hb⟩; have HX := hide (below_trans HX.out hb); have HSm := hide (same_walk (some ⟨g, 0, none⟩) pa la la la ca K N T K N T HLa.out w1 (rowP_of hr) (HRa.out _ HX.out)); clear hb hr)
    | (go_at_call 19; (with_reducible refine Calls.mono HSm.out ?_); rintro e w1 ⟨rfl, hb⟩; rw [HY.out]; have HX := hide (below_trans HX.out hb); clear hb)
    | (go_at_call 16; (with_reducible refine Calls.mono (HDs.out _) ?_); rintro e w1 ⟨gs, rfl, hr, hb⟩; have HX := hide (below_trans HX.out hb); have HEn := hide (HEs.out (some ⟨gs, 0, none⟩) vs.length w1 (rowP_of hr)); clear hb hr)
    | (go_at_call 13; (with_reducible refine Calls.mono HEn.out ?_); rintro e w1 ⟨rfl, hb⟩; have HX := hide (below_trans HX.out hb); clear hb)
    | (go_at_call 11; (with_reducible refine Calls.mono (awake_walk _) ?_); rintro e w1 ⟨rfl, hb⟩; have HX := hide (below_trans HX.out hb); clear hb))
  go_ret
  exact ⟨by simp, HX.out⟩

set_option maxHeartbeats 4000000 in
set_option maxRecDepth 10000 in
theorem back_Cn (pa pb : Option Addr) (la ca lb cb : Nat) (K N : Nat → Int) (T : Nat → ByteArray) (K2 N2 : Nat → Int) (T2 : Nat → ByteArray) (hla : la ≤ 140737488355328) (x y : ByteArray) (Ea Eb : Int) (l : List UInt8) (ha : EncIs la K N T x 0) (hb : EncIs lb K2 N2 T2 x 0) (hs : rdAll l = none) (w : World) (h : RowP w pa la K N T) (h2 : RowP w pb lb K2 N2 T2) :
    Calls Try.prog 6 #[.slice pa la ca, .slice pb lb cb, .string ⟨l.toArray⟩] w fun e w' => e = .returned (.bool true) ∧ Below w.heap.size w w' := by
  have HRa : Hid (∀ V, Below w.heap.size w V → RowP V pa la K N T) := fun V hV => h.later hV
  have HRb : Hid (∀ V, Below w.heap.size w V → RowP V pb lb K2 N2 T2) := fun V hV => h2.later hV
  have HX := hide (Below.refl w.heap.size w)
  have HEa : Hid (∀ V, Below w.heap.size w V → Calls Try.prog 13 #[.slice pa la ca] V fun e w' => e = .returned (.tuple #[.string x, .int .i64 0]) ∧ Below V.heap.size V w') := fun V hV => ha.call pa ca V (h.later hV)
  have HEb : Hid (∀ V, Below w.heap.size w V → Calls Try.prog 13 #[.slice pb lb cb] V fun e w' => e = .returned (.tuple #[.string x, .int .i64 0]) ∧ Below V.heap.size V w') := fun V hV => hb.call pb cb V (h2.later hV)
  have HLa := hide hla
  have HDx : Hid (∀ V, Calls Try.prog 16 #[.string x] V fun e w' => ∃ g, e = .returned (.tuple #[.slice (some ⟨g, 0, none⟩) la la, .int .i64 0]) ∧ RowAt w' g 0 la K N T ∧ Below V.heap.size V w') := fun V => dec_row ha V
  have HY := hide (same_yes (len := la) (K := K) (N := N) (T := T) (K2 := K) (N2 := N) (T2 := T) (fun i _ => ⟨rfl, rfl, rfl⟩))
  have hsr := same_rec ha hb
  have HY2 := hide (hsr.1 rfl)
  clear hsr
  have HDs : Hid (∀ V, Calls Try.prog 16 #[.string ⟨l.toArray⟩] V fun e w' => e = .returned (.tuple #[.slice none 0 0, .int .i64 8]) ∧ Below V.heap.size V w') := fun V => (decode_any l V).mono fun e w' hd => hd.2 hs
  obtain ⟨S, hS⟩ : ∃ S : ByteArray, (⟨l.toArray⟩ : ByteArray) = S := ⟨_, rfl⟩
  rw [hS] at HDs
  rw [hS]
  clear hS hs h h2 ha hb hla
  go_enter Try.func6, Try.ntmps6
  go_wp2_with (first
    | (go_at_call 13; (with_reducible refine Calls.mono (HEa.out _ HX.out) ?_); rintro e w1 ⟨rfl, hb⟩; have HX := hide (below_trans HX.out hb); clear hb)
    | (go_at_call 13; (with_reducible refine Calls.mono (HEb.out _ HX.out) ?_); rintro e w1 ⟨rfl, hb⟩; have HX := hide (below_trans HX.out hb); clear hb)
    | (go_at_call 16; (with_reducible refine Calls.mono (HDx.out _) ?_); rintro e w1 ⟨g, rfl, hr, hb⟩; have HX := hide (below_trans HX.out hb); have HSm := hide (same_walk (some ⟨g, 0, none⟩) pa la la la ca K N T K N T HLa.out w1 (rowP_of hr) (HRa.out _ HX.out)); clear hb hr)
    | (go_at_call 19; (with_reducible refine Calls.mono HSm.out ?_); rintro e w1 ⟨rfl, hb⟩; rw [HY.out]; have HX := hide (below_trans HX.out hb); clear hb)
    | (go_at_call 19; (with_reducible refine Calls.mono (same_walk pa pb la ca lb cb K N T K2 N2 T2 HLa.out _ (HRa.out _ HX.out) (HRb.out _ HX.out)) ?_); rintro e w1 ⟨rfl, hb⟩; rw [HY2.out]; have HX := hide (below_trans HX.out hb); clear hb)
    | (go_at_call 16; (with_reducible refine Calls.mono (HDs.out _) ?_); rintro e w1 ⟨rfl, hb⟩; have HX := hide (below_trans HX.out hb); clear hb)
    | (go_at_call 11; (with_reducible refine Calls.mono (awake_walk _) ?_); rintro e w1 ⟨rfl, hb⟩; have HX := hide (below_trans HX.out hb); clear hb))
  go_ret
  exact ⟨by simp, HX.out⟩

set_option maxHeartbeats 4000000 in
set_option maxRecDepth 10000 in
theorem back_Cs (pa pb : Option Addr) (la ca lb cb : Nat) (K N : Nat → Int) (T : Nat → ByteArray) (K2 N2 : Nat → Int) (T2 : Nat → ByteArray) (hla : la ≤ 140737488355328) (x y : ByteArray) (Ea Eb : Int) (l : List UInt8) (ha : EncIs la K N T x 0) (hb : EncIs lb K2 N2 T2 x 0) (vs : List Val3) (hs : rdAll l = some vs) (w : World) (h : RowP w pa la K N T) (h2 : RowP w pb lb K2 N2 T2) :
    Calls Try.prog 6 #[.slice pa la ca, .slice pb lb cb, .string ⟨l.toArray⟩] w fun e w' => e = .returned (.bool true) ∧ Below w.heap.size w w' := by
  have HRa : Hid (∀ V, Below w.heap.size w V → RowP V pa la K N T) := fun V hV => h.later hV
  have HRb : Hid (∀ V, Below w.heap.size w V → RowP V pb lb K2 N2 T2) := fun V hV => h2.later hV
  have HX := hide (Below.refl w.heap.size w)
  have HEa : Hid (∀ V, Below w.heap.size w V → Calls Try.prog 13 #[.slice pa la ca] V fun e w' => e = .returned (.tuple #[.string x, .int .i64 0]) ∧ Below V.heap.size V w') := fun V hV => ha.call pa ca V (h.later hV)
  have HEb : Hid (∀ V, Below w.heap.size w V → Calls Try.prog 13 #[.slice pb lb cb] V fun e w' => e = .returned (.tuple #[.string x, .int .i64 0]) ∧ Below V.heap.size V w') := fun V hV => hb.call pb cb V (h2.later hV)
  have HLa := hide hla
  have HDx : Hid (∀ V, Calls Try.prog 16 #[.string x] V fun e w' => ∃ g, e = .returned (.tuple #[.slice (some ⟨g, 0, none⟩) la la, .int .i64 0]) ∧ RowAt w' g 0 la K N T ∧ Below V.heap.size V w') := fun V => dec_row ha V
  have HY := hide (same_yes (len := la) (K := K) (N := N) (T := T) (K2 := K) (N2 := N) (T2 := T) (fun i _ => ⟨rfl, rfl, rfl⟩))
  have hsr := same_rec ha hb
  have HY2 := hide (hsr.1 rfl)
  clear hsr
  have HDs : Hid (∀ V, Calls Try.prog 16 #[.string ⟨l.toArray⟩] V fun e w' => ∃ g, e = .returned (.tuple #[.slice (some ⟨g, 0, none⟩) vs.length vs.length, .int .i64 0]) ∧ RowAt w' g 0 vs.length (KV vs) (NV vs) (TV vs) ∧ Below V.heap.size V w') := fun V => (decode_any l V).mono fun e w' hd => hd.1 vs hs
  have HEs := hide (enc_read hs).call
  obtain ⟨S, hS⟩ : ∃ S : ByteArray, (⟨l.toArray⟩ : ByteArray) = S := ⟨_, rfl⟩
  rw [hS] at HDs HEs
  rw [hS]
  clear hS hs h h2 ha hb hla
  go_enter Try.func6, Try.ntmps6
  go_wp2_with (first
    | (go_at_call 13; (with_reducible refine Calls.mono (HEa.out _ HX.out) ?_); rintro e w1 ⟨rfl, hb⟩; have HX := hide (below_trans HX.out hb); clear hb)
    | (go_at_call 13; (with_reducible refine Calls.mono (HEb.out _ HX.out) ?_); rintro e w1 ⟨rfl, hb⟩; have HX := hide (below_trans HX.out hb); clear hb)
    | (go_at_call 16; (with_reducible refine Calls.mono (HDx.out _) ?_); rintro e w1 ⟨g, rfl, hr, hb⟩; have HX := hide (below_trans HX.out hb); have HSm := hide (same_walk (some ⟨g, 0, none⟩) pa la la la ca K N T K N T HLa.out w1 (rowP_of hr) (HRa.out _ HX.out)); clear hb hr)
    | (go_at_call 19; (with_reducible refine Calls.mono HSm.out ?_); rintro e w1 ⟨rfl, hb⟩; rw [HY.out]; have HX := hide (below_trans HX.out hb); clear hb)
    | (go_at_call 19; (with_reducible refine Calls.mono (same_walk pa pb la ca lb cb K N T K2 N2 T2 HLa.out _ (HRa.out _ HX.out) (HRb.out _ HX.out)) ?_); rintro e w1 ⟨rfl, hb⟩; rw [HY2.out]; have HX := hide (below_trans HX.out hb); clear hb)
    | (go_at_call 16; (with_reducible refine Calls.mono (HDs.out _) ?_); rintro e w1 ⟨gs, rfl, hr, hb⟩; have HX := hide (below_trans HX.out hb); have HEn := hide (HEs.out (some ⟨gs, 0, none⟩) vs.length w1 (rowP_of hr)); clear hb hr)
    | (go_at_call 13; (with_reducible refine Calls.mono HEn.out ?_); rintro e w1 ⟨rfl, hb⟩; have HX := hide (below_trans HX.out hb); clear hb)
    | (go_at_call 11; (with_reducible refine Calls.mono (awake_walk _) ?_); rintro e w1 ⟨rfl, hb⟩; have HX := hide (below_trans HX.out hb); clear hb))
  go_ret
  exact ⟨by simp, HX.out⟩

set_option maxHeartbeats 4000000 in
set_option maxRecDepth 10000 in
theorem back_Dn (pa pb : Option Addr) (la ca lb cb : Nat) (K N : Nat → Int) (T : Nat → ByteArray) (K2 N2 : Nat → Int) (T2 : Nat → ByteArray) (hla : la ≤ 140737488355328) (x y : ByteArray) (Ea Eb : Int) (l : List UInt8) (ha : EncIs la K N T x 0) (hb : EncIs lb K2 N2 T2 y 0) (hxy : x ≠ y) (hl : ¬ x.size < y.size) (hs : rdAll l = none) (w : World) (h : RowP w pa la K N T) (h2 : RowP w pb lb K2 N2 T2) :
    Calls Try.prog 6 #[.slice pa la ca, .slice pb lb cb, .string ⟨l.toArray⟩] w fun e w' => e = .returned (.bool true) ∧ Below w.heap.size w w' := by
  have HRa : Hid (∀ V, Below w.heap.size w V → RowP V pa la K N T) := fun V hV => h.later hV
  have HRb : Hid (∀ V, Below w.heap.size w V → RowP V pb lb K2 N2 T2) := fun V hV => h2.later hV
  have HX := hide (Below.refl w.heap.size w)
  have HEa : Hid (∀ V, Below w.heap.size w V → Calls Try.prog 13 #[.slice pa la ca] V fun e w' => e = .returned (.tuple #[.string x, .int .i64 0]) ∧ Below V.heap.size V w') := fun V hV => ha.call pa ca V (h.later hV)
  have HEb : Hid (∀ V, Below w.heap.size w V → Calls Try.prog 13 #[.slice pb lb cb] V fun e w' => e = .returned (.tuple #[.string y, .int .i64 0]) ∧ Below V.heap.size V w') := fun V hV => hb.call pb cb V (h2.later hV)
  have HLa := hide hla
  have HDx : Hid (∀ V, Calls Try.prog 16 #[.string x] V fun e w' => ∃ g, e = .returned (.tuple #[.slice (some ⟨g, 0, none⟩) la la, .int .i64 0]) ∧ RowAt w' g 0 la K N T ∧ Below V.heap.size V w') := fun V => dec_row ha V
  have HY := hide (same_yes (len := la) (K := K) (N := N) (T := T) (K2 := K) (N2 := N) (T2 := T) (fun i _ => ⟨rfl, rfl, rfl⟩))
  have hsr := same_rec ha hb
  have HY2 := hide (hsr.2.1 hxy)
  obtain ⟨n0, n1, n2⟩ := ne_forms hxy
  have l1 : ¬ (x.size : Int) < (y.size : Int) := by omega
  have l2 : decide ((x.size : Int) < (y.size : Int)) = false := by simp; omega
  clear hsr
  have HDs : Hid (∀ V, Calls Try.prog 16 #[.string ⟨l.toArray⟩] V fun e w' => e = .returned (.tuple #[.slice none 0 0, .int .i64 8]) ∧ Below V.heap.size V w') := fun V => (decode_any l V).mono fun e w' hd => hd.2 hs
  obtain ⟨S, hS⟩ : ∃ S : ByteArray, (⟨l.toArray⟩ : ByteArray) = S := ⟨_, rfl⟩
  rw [hS] at HDs
  rw [hS]
  clear hS hs h h2 ha hb hla hxy hl
  go_enter Try.func6, Try.ntmps6
  go_wp2_with (first
    | (go_at_call 13; (with_reducible refine Calls.mono (HEa.out _ HX.out) ?_); rintro e w1 ⟨rfl, hb⟩; have HX := hide (below_trans HX.out hb); clear hb)
    | (go_at_call 13; (with_reducible refine Calls.mono (HEb.out _ HX.out) ?_); rintro e w1 ⟨rfl, hb⟩; have HX := hide (below_trans HX.out hb); clear hb)
    | (go_at_call 16; (with_reducible refine Calls.mono (HDx.out _) ?_); rintro e w1 ⟨g, rfl, hr, hb⟩; have HX := hide (below_trans HX.out hb); have HSm := hide (same_walk (some ⟨g, 0, none⟩) pa la la la ca K N T K N T HLa.out w1 (rowP_of hr) (HRa.out _ HX.out)); clear hb hr)
    | (go_at_call 19; (with_reducible refine Calls.mono HSm.out ?_); rintro e w1 ⟨rfl, hb⟩; rw [HY.out]; have HX := hide (below_trans HX.out hb); clear hb)
    | (go_at_call 19; (with_reducible refine Calls.mono (same_walk pa pb la ca lb cb K N T K2 N2 T2 HLa.out _ (HRa.out _ HX.out) (HRb.out _ HX.out)) ?_); rintro e w1 ⟨rfl, hb⟩; rw [HY2.out]; have HX := hide (below_trans HX.out hb); clear hb)
    | (go_at_call 16; (with_reducible refine Calls.mono (HDs.out _) ?_); rintro e w1 ⟨rfl, hb⟩; have HX := hide (below_trans HX.out hb); clear hb)
    | (go_at_call 11; (with_reducible refine Calls.mono (awake_walk _) ?_); rintro e w1 ⟨rfl, hb⟩; have HX := hide (below_trans HX.out hb); clear hb))
  go_ret
  exact ⟨by simp, HX.out⟩

set_option maxHeartbeats 4000000 in
set_option maxRecDepth 10000 in
theorem back_Ds (pa pb : Option Addr) (la ca lb cb : Nat) (K N : Nat → Int) (T : Nat → ByteArray) (K2 N2 : Nat → Int) (T2 : Nat → ByteArray) (hla : la ≤ 140737488355328) (x y : ByteArray) (Ea Eb : Int) (l : List UInt8) (ha : EncIs la K N T x 0) (hb : EncIs lb K2 N2 T2 y 0) (hxy : x ≠ y) (hl : ¬ x.size < y.size) (vs : List Val3) (hs : rdAll l = some vs) (w : World) (h : RowP w pa la K N T) (h2 : RowP w pb lb K2 N2 T2) :
    Calls Try.prog 6 #[.slice pa la ca, .slice pb lb cb, .string ⟨l.toArray⟩] w fun e w' => e = .returned (.bool true) ∧ Below w.heap.size w w' := by
  have HRa : Hid (∀ V, Below w.heap.size w V → RowP V pa la K N T) := fun V hV => h.later hV
  have HRb : Hid (∀ V, Below w.heap.size w V → RowP V pb lb K2 N2 T2) := fun V hV => h2.later hV
  have HX := hide (Below.refl w.heap.size w)
  have HEa : Hid (∀ V, Below w.heap.size w V → Calls Try.prog 13 #[.slice pa la ca] V fun e w' => e = .returned (.tuple #[.string x, .int .i64 0]) ∧ Below V.heap.size V w') := fun V hV => ha.call pa ca V (h.later hV)
  have HEb : Hid (∀ V, Below w.heap.size w V → Calls Try.prog 13 #[.slice pb lb cb] V fun e w' => e = .returned (.tuple #[.string y, .int .i64 0]) ∧ Below V.heap.size V w') := fun V hV => hb.call pb cb V (h2.later hV)
  have HLa := hide hla
  have HDx : Hid (∀ V, Calls Try.prog 16 #[.string x] V fun e w' => ∃ g, e = .returned (.tuple #[.slice (some ⟨g, 0, none⟩) la la, .int .i64 0]) ∧ RowAt w' g 0 la K N T ∧ Below V.heap.size V w') := fun V => dec_row ha V
  have HY := hide (same_yes (len := la) (K := K) (N := N) (T := T) (K2 := K) (N2 := N) (T2 := T) (fun i _ => ⟨rfl, rfl, rfl⟩))
  have hsr := same_rec ha hb
  have HY2 := hide (hsr.2.1 hxy)
  obtain ⟨n0, n1, n2⟩ := ne_forms hxy
  have l1 : ¬ (x.size : Int) < (y.size : Int) := by omega
  have l2 : decide ((x.size : Int) < (y.size : Int)) = false := by simp; omega
  clear hsr
  have HDs : Hid (∀ V, Calls Try.prog 16 #[.string ⟨l.toArray⟩] V fun e w' => ∃ g, e = .returned (.tuple #[.slice (some ⟨g, 0, none⟩) vs.length vs.length, .int .i64 0]) ∧ RowAt w' g 0 vs.length (KV vs) (NV vs) (TV vs) ∧ Below V.heap.size V w') := fun V => (decode_any l V).mono fun e w' hd => hd.1 vs hs
  have HEs := hide (enc_read hs).call
  obtain ⟨S, hS⟩ : ∃ S : ByteArray, (⟨l.toArray⟩ : ByteArray) = S := ⟨_, rfl⟩
  rw [hS] at HDs HEs
  rw [hS]
  clear hS hs h h2 ha hb hla hxy hl
  go_enter Try.func6, Try.ntmps6
  go_wp2_with (first
    | (go_at_call 13; (with_reducible refine Calls.mono (HEa.out _ HX.out) ?_); rintro e w1 ⟨rfl, hb⟩; have HX := hide (below_trans HX.out hb); clear hb)
    | (go_at_call 13; (with_reducible refine Calls.mono (HEb.out _ HX.out) ?_); rintro e w1 ⟨rfl, hb⟩; have HX := hide (below_trans HX.out hb); clear hb)
    | (go_at_call 16; (with_reducible refine Calls.mono (HDx.out _) ?_); rintro e w1 ⟨g, rfl, hr, hb⟩; have HX := hide (below_trans HX.out hb); have HSm := hide (same_walk (some ⟨g, 0, none⟩) pa la la la ca K N T K N T HLa.out w1 (rowP_of hr) (HRa.out _ HX.out)); clear hb hr)
    | (go_at_call 19; (with_reducible refine Calls.mono HSm.out ?_); rintro e w1 ⟨rfl, hb⟩; rw [HY.out]; have HX := hide (below_trans HX.out hb); clear hb)
    | (go_at_call 19; (with_reducible refine Calls.mono (same_walk pa pb la ca lb cb K N T K2 N2 T2 HLa.out _ (HRa.out _ HX.out) (HRb.out _ HX.out)) ?_); rintro e w1 ⟨rfl, hb⟩; rw [HY2.out]; have HX := hide (below_trans HX.out hb); clear hb)
    | (go_at_call 16; (with_reducible refine Calls.mono (HDs.out _) ?_); rintro e w1 ⟨gs, rfl, hr, hb⟩; have HX := hide (below_trans HX.out hb); have HEn := hide (HEs.out (some ⟨gs, 0, none⟩) vs.length w1 (rowP_of hr)); clear hb hr)
    | (go_at_call 13; (with_reducible refine Calls.mono HEn.out ?_); rintro e w1 ⟨rfl, hb⟩; have HX := hide (below_trans HX.out hb); clear hb)
    | (go_at_call 11; (with_reducible refine Calls.mono (awake_walk _) ?_); rintro e w1 ⟨rfl, hb⟩; have HX := hide (below_trans HX.out hb); clear hb))
  go_ret
  exact ⟨by simp, HX.out⟩

set_option maxHeartbeats 4000000 in
set_option maxRecDepth 10000 in
theorem back_En (pa pb : Option Addr) (la ca lb cb : Nat) (K N : Nat → Int) (T : Nat → ByteArray) (K2 N2 : Nat → Int) (T2 : Nat → ByteArray) (hla : la ≤ 140737488355328) (x y : ByteArray) (Ea Eb : Int) (l : List UInt8) (ha : EncIs la K N T x 0) (hb : EncIs lb K2 N2 T2 y 0) (hxy : x ≠ y) (hl : x.size < y.size) (hs : rdAll l = none) (w : World) (h : RowP w pa la K N T) (h2 : RowP w pb lb K2 N2 T2) :
    Calls Try.prog 6 #[.slice pa la ca, .slice pb lb cb, .string ⟨l.toArray⟩] w fun e w' => e = .returned (.bool true) ∧ Below w.heap.size w w' := by
  have HRa : Hid (∀ V, Below w.heap.size w V → RowP V pa la K N T) := fun V hV => h.later hV
  have HRb : Hid (∀ V, Below w.heap.size w V → RowP V pb lb K2 N2 T2) := fun V hV => h2.later hV
  have HX := hide (Below.refl w.heap.size w)
  have HEa : Hid (∀ V, Below w.heap.size w V → Calls Try.prog 13 #[.slice pa la ca] V fun e w' => e = .returned (.tuple #[.string x, .int .i64 0]) ∧ Below V.heap.size V w') := fun V hV => ha.call pa ca V (h.later hV)
  have HEb : Hid (∀ V, Below w.heap.size w V → Calls Try.prog 13 #[.slice pb lb cb] V fun e w' => e = .returned (.tuple #[.string y, .int .i64 0]) ∧ Below V.heap.size V w') := fun V hV => hb.call pb cb V (h2.later hV)
  have HLa := hide hla
  have HDx : Hid (∀ V, Calls Try.prog 16 #[.string x] V fun e w' => ∃ g, e = .returned (.tuple #[.slice (some ⟨g, 0, none⟩) la la, .int .i64 0]) ∧ RowAt w' g 0 la K N T ∧ Below V.heap.size V w') := fun V => dec_row ha V
  have HY := hide (same_yes (len := la) (K := K) (N := N) (T := T) (K2 := K) (N2 := N) (T2 := T) (fun i _ => ⟨rfl, rfl, rfl⟩))
  have hsr := same_rec ha hb
  have HY2 := hide (hsr.2.1 hxy)
  obtain ⟨n0, n1, n2⟩ := ne_forms hxy
  obtain ⟨m0, m1, m2⟩ := ne_forms (hsr.2.2 hxy (Nat.le_of_lt hl))
  have l0 : (0 : Int) ≤ (x.size : Int) := by omega
  have l1 : (x.size : Int) < (y.size : Int) := by omega
  have l2 : (x.size : Int) ≤ (y.size : Int) := by omega
  clear hsr
  have HDs : Hid (∀ V, Calls Try.prog 16 #[.string ⟨l.toArray⟩] V fun e w' => e = .returned (.tuple #[.slice none 0 0, .int .i64 8]) ∧ Below V.heap.size V w') := fun V => (decode_any l V).mono fun e w' hd => hd.2 hs
  obtain ⟨S, hS⟩ : ∃ S : ByteArray, (⟨l.toArray⟩ : ByteArray) = S := ⟨_, rfl⟩
  rw [hS] at HDs
  rw [hS]
  clear hS hs h h2 ha hb hla hxy hl
  go_enter Try.func6, Try.ntmps6
  go_wp2_with (first
    | (go_at_call 13; (with_reducible refine Calls.mono (HEa.out _ HX.out) ?_); rintro e w1 ⟨rfl, hb⟩; have HX := hide (below_trans HX.out hb); clear hb)
    | (go_at_call 13; (with_reducible refine Calls.mono (HEb.out _ HX.out) ?_); rintro e w1 ⟨rfl, hb⟩; have HX := hide (below_trans HX.out hb); clear hb)
    | (go_at_call 16; (with_reducible refine Calls.mono (HDx.out _) ?_); rintro e w1 ⟨g, rfl, hr, hb⟩; have HX := hide (below_trans HX.out hb); have HSm := hide (same_walk (some ⟨g, 0, none⟩) pa la la la ca K N T K N T HLa.out w1 (rowP_of hr) (HRa.out _ HX.out)); clear hb hr)
    | (go_at_call 19; (with_reducible refine Calls.mono HSm.out ?_); rintro e w1 ⟨rfl, hb⟩; rw [HY.out]; have HX := hide (below_trans HX.out hb); clear hb)
    | (go_at_call 19; (with_reducible refine Calls.mono (same_walk pa pb la ca lb cb K N T K2 N2 T2 HLa.out _ (HRa.out _ HX.out) (HRb.out _ HX.out)) ?_); rintro e w1 ⟨rfl, hb⟩; rw [HY2.out]; have HX := hide (below_trans HX.out hb); clear hb)
    | (go_at_call 16; (with_reducible refine Calls.mono (HDs.out _) ?_); rintro e w1 ⟨rfl, hb⟩; have HX := hide (below_trans HX.out hb); clear hb)
    | (go_at_call 11; (with_reducible refine Calls.mono (awake_walk _) ?_); rintro e w1 ⟨rfl, hb⟩; have HX := hide (below_trans HX.out hb); clear hb))
  go_ret
  exact ⟨by simp, HX.out⟩

set_option maxHeartbeats 4000000 in
set_option maxRecDepth 10000 in
theorem back_Es (pa pb : Option Addr) (la ca lb cb : Nat) (K N : Nat → Int) (T : Nat → ByteArray) (K2 N2 : Nat → Int) (T2 : Nat → ByteArray) (hla : la ≤ 140737488355328) (x y : ByteArray) (Ea Eb : Int) (l : List UInt8) (ha : EncIs la K N T x 0) (hb : EncIs lb K2 N2 T2 y 0) (hxy : x ≠ y) (hl : x.size < y.size) (vs : List Val3) (hs : rdAll l = some vs) (w : World) (h : RowP w pa la K N T) (h2 : RowP w pb lb K2 N2 T2) :
    Calls Try.prog 6 #[.slice pa la ca, .slice pb lb cb, .string ⟨l.toArray⟩] w fun e w' => e = .returned (.bool true) ∧ Below w.heap.size w w' := by
  have HRa : Hid (∀ V, Below w.heap.size w V → RowP V pa la K N T) := fun V hV => h.later hV
  have HRb : Hid (∀ V, Below w.heap.size w V → RowP V pb lb K2 N2 T2) := fun V hV => h2.later hV
  have HX := hide (Below.refl w.heap.size w)
  have HEa : Hid (∀ V, Below w.heap.size w V → Calls Try.prog 13 #[.slice pa la ca] V fun e w' => e = .returned (.tuple #[.string x, .int .i64 0]) ∧ Below V.heap.size V w') := fun V hV => ha.call pa ca V (h.later hV)
  have HEb : Hid (∀ V, Below w.heap.size w V → Calls Try.prog 13 #[.slice pb lb cb] V fun e w' => e = .returned (.tuple #[.string y, .int .i64 0]) ∧ Below V.heap.size V w') := fun V hV => hb.call pb cb V (h2.later hV)
  have HLa := hide hla
  have HDx : Hid (∀ V, Calls Try.prog 16 #[.string x] V fun e w' => ∃ g, e = .returned (.tuple #[.slice (some ⟨g, 0, none⟩) la la, .int .i64 0]) ∧ RowAt w' g 0 la K N T ∧ Below V.heap.size V w') := fun V => dec_row ha V
  have HY := hide (same_yes (len := la) (K := K) (N := N) (T := T) (K2 := K) (N2 := N) (T2 := T) (fun i _ => ⟨rfl, rfl, rfl⟩))
  have hsr := same_rec ha hb
  have HY2 := hide (hsr.2.1 hxy)
  obtain ⟨n0, n1, n2⟩ := ne_forms hxy
  obtain ⟨m0, m1, m2⟩ := ne_forms (hsr.2.2 hxy (Nat.le_of_lt hl))
  have l0 : (0 : Int) ≤ (x.size : Int) := by omega
  have l1 : (x.size : Int) < (y.size : Int) := by omega
  have l2 : (x.size : Int) ≤ (y.size : Int) := by omega
  clear hsr
  have HDs : Hid (∀ V, Calls Try.prog 16 #[.string ⟨l.toArray⟩] V fun e w' => ∃ g, e = .returned (.tuple #[.slice (some ⟨g, 0, none⟩) vs.length vs.length, .int .i64 0]) ∧ RowAt w' g 0 vs.length (KV vs) (NV vs) (TV vs) ∧ Below V.heap.size V w') := fun V => (decode_any l V).mono fun e w' hd => hd.1 vs hs
  have HEs := hide (enc_read hs).call
  obtain ⟨S, hS⟩ : ∃ S : ByteArray, (⟨l.toArray⟩ : ByteArray) = S := ⟨_, rfl⟩
  rw [hS] at HDs HEs
  rw [hS]
  clear hS hs h h2 ha hb hla hxy hl
  go_enter Try.func6, Try.ntmps6
  go_wp2_with (first
    | (go_at_call 13; (with_reducible refine Calls.mono (HEa.out _ HX.out) ?_); rintro e w1 ⟨rfl, hb⟩; have HX := hide (below_trans HX.out hb); clear hb)
    | (go_at_call 13; (with_reducible refine Calls.mono (HEb.out _ HX.out) ?_); rintro e w1 ⟨rfl, hb⟩; have HX := hide (below_trans HX.out hb); clear hb)
    | (go_at_call 16; (with_reducible refine Calls.mono (HDx.out _) ?_); rintro e w1 ⟨g, rfl, hr, hb⟩; have HX := hide (below_trans HX.out hb); have HSm := hide (same_walk (some ⟨g, 0, none⟩) pa la la la ca K N T K N T HLa.out w1 (rowP_of hr) (HRa.out _ HX.out)); clear hb hr)
    | (go_at_call 19; (with_reducible refine Calls.mono HSm.out ?_); rintro e w1 ⟨rfl, hb⟩; rw [HY.out]; have HX := hide (below_trans HX.out hb); clear hb)
    | (go_at_call 19; (with_reducible refine Calls.mono (same_walk pa pb la ca lb cb K N T K2 N2 T2 HLa.out _ (HRa.out _ HX.out) (HRb.out _ HX.out)) ?_); rintro e w1 ⟨rfl, hb⟩; rw [HY2.out]; have HX := hide (below_trans HX.out hb); clear hb)
    | (go_at_call 16; (with_reducible refine Calls.mono (HDs.out _) ?_); rintro e w1 ⟨gs, rfl, hr, hb⟩; have HX := hide (below_trans HX.out hb); have HEn := hide (HEs.out (some ⟨gs, 0, none⟩) vs.length w1 (rowP_of hr)); clear hb hr)
    | (go_at_call 13; (with_reducible refine Calls.mono HEn.out ?_); rintro e w1 ⟨rfl, hb⟩; have HX := hide (below_trans HX.out hb); clear hb)
    | (go_at_call 11; (with_reducible refine Calls.mono (awake_walk _) ?_); rintro e w1 ⟨rfl, hb⟩; have HX := hide (below_trans HX.out hb); clear hb))
  go_ret
  exact ⟨by simp, HX.out⟩

/-- The walk of RecordBack. -/
theorem back_walk (pa pb : Option Addr) (la ca lb cb : Nat) (K N : Nat → Int) (T : Nat → ByteArray) (K2 N2 : Nat → Int) (T2 : Nat → ByteArray) (hla : la ≤ 140737488355328) (hlb : lb ≤ 140737488355328) (hia : ∀ i, i < la → InI (N i)) (hib : ∀ i, i < lb → InI (N2 i)) (l : List UInt8) (w : World) (h : RowP w pa la K N T) (h2 : RowP w pb lb K2 N2 T2) :
    Calls Try.prog 6 #[.slice pa la ca, .slice pb lb cb, .string ⟨l.toArray⟩] w fun e w' => e = .returned (.bool true) ∧ Below w.heap.size w w' := by
  obtain ⟨x, Ea, ha⟩ := enc_is la K N T hla hia
  obtain ⟨y, Eb, hb⟩ := enc_is lb K2 N2 T2 hlb hib
  by_cases hea : Ea = 0
  · subst hea
    by_cases heb : Eb = 0
    · subst heb
      by_cases hxy : x = y
      · subst hxy
        cases hs : rdAll l with
        | none => exact back_Cn pa pb la ca lb cb K N T K2 N2 T2 hla x x 0 0 l ha hb hs w h h2
        | some vs => exact back_Cs pa pb la ca lb cb K N T K2 N2 T2 hla x x 0 0 l ha hb vs hs w h h2
      · by_cases hl : x.size < y.size
        · cases hs : rdAll l with
          | none => exact back_En pa pb la ca lb cb K N T K2 N2 T2 hla x y 0 0 l ha hb hxy hl hs w h h2
          | some vs => exact back_Es pa pb la ca lb cb K N T K2 N2 T2 hla x y 0 0 l ha hb hxy hl vs hs w h h2
        · cases hs : rdAll l with
          | none => exact back_Dn pa pb la ca lb cb K N T K2 N2 T2 hla x y 0 0 l ha hb hxy hl hs w h h2
          | some vs => exact back_Ds pa pb la ca lb cb K N T K2 N2 T2 hla x y 0 0 l ha hb hxy hl vs hs w h h2
    · cases hs : rdAll l with
      | none => exact back_Bn pa pb la ca lb cb K N T K2 N2 T2 hla x y 0 Eb l ha hb heb hs w h h2
      | some vs => exact back_Bs pa pb la ca lb cb K N T K2 N2 T2 hla x y 0 Eb l ha hb heb vs hs w h h2
  · cases hs : rdAll l with
    | none => exact back_An pa pb la ca lb cb K N T K2 N2 T2 hla x y Ea Eb l ha hb hea hs w h h2
    | some vs => exact back_As pa pb la ca lb cb K N T K2 N2 T2 hla x y Ea Eb l ha hb hea vs hs w h h2
end Go.Proofs.Ytfjmoiooonialaa
