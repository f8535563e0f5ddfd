/- The document's Print, of a blob; all of it. -/
import Derived.Test.YtghemaghbpekfaaGreatDoorRQ
namespace Go.Proofs.YtghemaghbpekfaaGreatDoor
open Go.ChangeShapes Go.WideShapes Go.ChangeAt Go.RowKit
set_option linter.unusedVariables false

set_option maxHeartbeats 1000000 in
set_option maxRecDepth 10000 in
theorem rprint3 (t : ByteArray) (ht : t.size ≤ 400) (w : World) : Calls Tryz.prog 30 #[val 3 0 t] w fun e w' => e = .returned (.tuple #[.string ⟨(120 :: 39 :: (hexs t.data.toList ++ [39])).toArray⟩, .int .i64 0]) ∧ Below w.heap.size w w' := by
  have hmB : mayB 3 0 t = true := by rw [may3]; simp [ht]
  have HV : Hid (∀ V, Below (w.alloc (.cells #[.int .i64 3, .int .i64 0, .string t] 24)).heap.size (w.alloc (.cells #[.int .i64 3, .int .i64 0, .string t] 24)) V → _) := later_block w (.int .i64 3) (.int .i64 0) (.string t) 24
  obtain ⟨i0, hi0, hz0, hz1, hz2⟩ := info_parts info5'
  go_enter Tryz.func30, Tryz.ntmps30
  go_wp2_with (first
    | (go_at_call 20; with_reducible refine Calls.mono (rmay_walk _ _ _ _) ?_; rintro e w1 ⟨rfl, hb1⟩; obtain ⟨d0, d1, d2, d3, d4, d5⟩ := HV.out _ hb1; have HB1 := hide hb1; clear hb1)
    | (at_builtin; refine wp_appq (by rfl) _ _ (by rfl) (w.alloc (.cells #[.int .i64 3, .int .i64 0, .string t] 24)).heap.size _ _ [39] _ (by rfl) (by rfl) hown2 (by rfl) (by decide) (by decide) hsz2 ?_; intro g3 cap3 w3 hown3 hbel3 hsz3)
    | (at_builtin; refine wp_appq (by rfl) _ _ (by rfl) (w.alloc (.cells #[.int .i64 3, .int .i64 0, .string t] 24)).heap.size (.slice none 0 0) [] [120] _ (by rfl) (by rfl) (World.ownsRow_nil _ _ _ _) (by rfl) (by decide) (by decide) HB1.out.size ?_; intro g cap w2 hown2 hbel2 hsz2))
  go_loopw [4, 5] (fun v i wr => ∃ j : Nat, j ≤ t.size ∧ i = .int .i64 j ∧ OwnB wr (w.alloc (.cells #[.int .i64 3, .int .i64 0, .string t] 24)).heap.size v (120 :: 39 :: hexs (t.data.toList.take j)) ∧ Below (w.alloc (.cells #[.int .i64 3, .int .i64 0, .string t] 24)).heap.size (w.alloc (.cells #[.int .i64 3, .int .i64 0, .string t] 24)) wr) (fun _ i _ => t.size - (intOf i).toNat)
  case atStart => exact ⟨0, Nat.zero_le _, rfl, hown3, (HB1.out.trans hbel2).trans hbel3⟩
  case round =>
    obtain ⟨j, hj, rfl, hown, hbel⟩ := hrel
    obtain ⟨a0, a1, a2, b0, b1, b2⟩ := HV.out _ hbel
    have HB : Hid (Below (w.alloc (.cells #[.int .i64 3, .int .i64 0, .string t] 24)).heap.size (w.alloc (.cells #[.int .i64 3, .int .i64 0, .string t] 24)) wr) := hbel
    have HO : Hid (OwnB wr (w.alloc (.cells #[.int .i64 3, .int .i64 0, .string t] 24)).heap.size u4 (120 :: 39 :: hexs (t.data.toList.take j))) := hown
    have hlen : (120 :: 39 :: hexs (t.data.toList.take j)).length ≤ 1000 := by
      have := hexs_length (t.data.toList.take j)
      rw [take_len t j hj] at this
      simp; omega
    have HN : Hid ((120 :: 39 :: hexs (t.data.toList.take j)).length ≤ 1000) := hlen
    have HS : Hid ((w.alloc (.cells #[.int .i64 3, .int .i64 0, .string t] 24)).heap.size ≤ wr.heap.size) := hbel.size
    clear hown hbel d0 d1 d2 d3 d4 d5 hown2 hbel2 hsz2 hown3 hbel3 hsz3
    by_cases hlt : j < t.size
    · have l1 : (j : Int) < (t.size : Int) := by omega
      have l0 : (0 : Int) ≤ (j : Int) := by omega
      obtain ⟨q, hq⟩ : ∃ q : Nat, (t[j]'hlt).toNat = q := ⟨_, rfl⟩
      have hq256 : q < 256 := by rw [← hq]; exact UInt8.toNat_lt _
      have hb : ∀ (h : j < t.size), ((t[j]'h).toNat : Int) = (q : Int) := fun h => by rw [hq]
      have q0 : (0 : Int) ≤ (q : Int) := by omega
      have q1 : (q : Int) < 256 := by omega
      obtain ⟨a, ha⟩ : ∃ a : Nat, q / 16 = a := ⟨_, rfl⟩
      obtain ⟨b, hbb⟩ : ∃ b : Nat, q % 16 = b := ⟨_, rfl⟩
      have hA : (q : Int) / 16 = (a : Int) := by omega
      have hA2 : (q : Int).tdiv 16 = (a : Int) := by rw [Int.tdiv_eq_ediv_of_nonneg (by omega)]; omega
      have hB : (q : Int) % 16 = (b : Int) := by omega
      have hB2 : (q : Int).tmod 16 = (b : Int) := by rw [Int.tmod_eq_emod_of_nonneg (by omega)]; omega
      have ha16 : a < 16 := by omega
      have hb16 : b < 16 := by omega
      obtain ⟨x, hx⟩ : ∃ x : UInt8, hexd a = x := ⟨_, rfl⟩
      obtain ⟨y, hy⟩ : ∃ y : UInt8, hexd b = y := ⟨_, rfl⟩
      have HDa : Hid (∀ V, Calls Tryz.prog 45 #[.int .u8 (a : Int)] V fun e w' => e = .returned (.int .u8 (x.toNat : Int)) ∧ V = w') := fun V => by rw [← hx]; exact digit_walk a ha16 V
      have HDb : Hid (∀ V, Calls Tryz.prog 45 #[.int .u8 (b : Int)] V fun e w' => e = .returned (.int .u8 (y.toNat : Int)) ∧ V = w') := fun V => by rw [← hy]; exact digit_walk b hb16 V
      have HQ : Hid ((t[j]'hlt).toNat = q) := hq
      have HAA : Hid (q / 16 = a ∧ q % 16 = b ∧ hexd a = x ∧ hexd b = y) := ⟨ha, hbb, hx, hy⟩
      clear hq ha hbb hx hy hlen
      go_wp2_with (first
        | (go_at_call 45; with_reducible refine Calls.mono (HDa.out _) ?_; rintro e w5 ⟨rfl, rfl⟩)
        | (go_at_call 45; with_reducible refine Calls.mono (HDb.out _) ?_; rintro e w5 ⟨rfl, rfl⟩)
        | (at_builtin; refine wp_appq (by rfl) _ _ (by rfl) (w.alloc (.cells #[.int .i64 3, .int .i64 0, .string t] 24)).heap.size u4 _ [x, y] _ (by rfl) (by rfl) HO.out (by rfl) (by simp) (by have := HN.out; simp at this ⊢; omega) HS.out ?_; intro g4 cap4 w4 hown4 hbel4 hsz4))
      go_roundw
      case rel =>
        obtain ⟨e1, e2, e3, e4⟩ := HAA.out
        refine ⟨j + 1, by omega, by simp, ?_, HB.out.trans hbel4⟩
        rw [take_next t j hlt, hexs_snoc, HQ.out, e1, e2, e3, e4]
        simpa using hown4
      case measure => simp [intOf]; omega
    · have hjt : j = t.size := by omega
      subst hjt
      have l1 : ¬ ((t.size : Int) < (t.size : Int)) := by omega
      have HO' : Hid (OwnB wr (w.alloc (.cells #[.int .i64 3, .int .i64 0, .string t] 24)).heap.size u4 (120 :: 39 :: hexs t.data.toList)) := (show OwnB wr (w.alloc (.cells #[.int .i64 3, .int .i64 0, .string t] 24)).heap.size u4 (120 :: 39 :: hexs t.data.toList) by have := HO.out; rw [take_size] at this; exact this)
      go_upto_region 22 with (first
        | (at_builtin; refine wp_appq (by rfl) _ _ (by rfl) (w.alloc (.cells #[.int .i64 3, .int .i64 0, .string t] 24)).heap.size u4 _ [39] _ (by rfl) (by rfl) HO'.out (by rfl) (by decide) (by have := HN.out; rw [take_size] at this; simp at this ⊢; omega) HS.out ?_; intro g4 cap4 w4 hown4 hbel4 hsz4))
      have hcv : (convert 53 9 (.slice (some ⟨g4, 0, none⟩) ((hexs t.data.toList).length + 1 + 1 + 1) cap4)).run Tryz.prog w4 = .ok (.string ⟨(120 :: 39 :: (hexs t.data.toList ++ [39])).toArray⟩) w4 := conv_own hown4
      have HF : Hid (Below w.heap.size w w4) := below_trans (new_below w _ rfl) (HB.out.trans hbel4)
      clear hown4 hbel4
      go_wp2
      go_ret2
      exact ⟨rfl, HF.out⟩

/-- What both Prints answer. -/
def printsAs (k n : Int) (t : List UInt8) (r : List UInt8) (c : Int) : Prop := (MayL k n t ∧ r = printL k n t ∧ c = 0) ∨ (¬ MayL k n t ∧ r = [] ∧ c = 2)

theorem print_walk (k n : Int) (t : ByteArray) (h0 : -9223372036854775808 ≤ n) (h1 : n ≤ 9223372036854775807) : ∃ (r : ByteArray) (c : Int), printsAs k n t.data.toList r.data.toList c ∧ ∀ w, Env w →
    Calls Tryz.prog 27 #[.agg #[.int .i64 k, .int .i64 n, .string t]] w fun e w' => e = .returned (.tuple #[.string r, .int .i64 c]) ∧ Below w.heap.size w w' := by
  by_cases hm : MayL k n t.data.toList
  · exact ⟨⟨(printL k n t.data.toList).toArray⟩, 0, .inl ⟨hm, rfl, rfl⟩, fun w hE => print_may k n t h0 h1 hm w hE⟩
  · exact ⟨⟨#[]⟩, 2, .inr ⟨hm, rfl, rfl⟩, fun w hE => print_no k n t hm w⟩

set_option maxHeartbeats 1000000 in
set_option maxRecDepth 10000 in
theorem rprint_walk (k n : Int) (t : ByteArray) (h0 : -9223372036854775808 ≤ n) (h1 : n ≤ 9223372036854775807) (r : ByteArray) (c : Int) (hp : printsAs k n t.data.toList r.data.toList c) (w : World) (hE : Env w) :
    Calls Tryz.prog 30 #[.agg #[.int .i64 k, .int .i64 n, .string t]] w fun e w' => e = .returned (.tuple #[.string r, .int .i64 c]) ∧ Below w.heap.size w w' := by
  have hsz : t.data.toList.length = t.size := by simp
  have hr : ∀ (l : List UInt8), r.data.toList = l → r = ⟨l.toArray⟩ := fun l h => by cases r with | mk d => simp at h; simp [← h]
  have HV : Hid (∀ V, Below (w.alloc (.cells #[.int .i64 k, .int .i64 n, .string t] 24)).heap.size (w.alloc (.cells #[.int .i64 k, .int .i64 n, .string t] 24)) V → _) := later_block w (.int .i64 k) (.int .i64 n) (.string t) 24
  have HE : Hid (∀ V, Below (w.alloc (.cells #[.int .i64 k, .int .i64 n, .string t] 24)).heap.size (w.alloc (.cells #[.int .i64 k, .int .i64 n, .string t] 24)) V → Env V) := fun V h => (hE.below (new_below w _ rfl)).below h
  have HB0 : Hid (∀ V, Below (w.alloc (.cells #[.int .i64 k, .int .i64 n, .string t] 24)).heap.size (w.alloc (.cells #[.int .i64 k, .int .i64 n, .string t] 24)) V → Below w.heap.size w V) := fun V h => below_trans (new_below w _ rfl) h
  rcases hp with ⟨hm, hp, rfl⟩ | ⟨hm, hp, rfl⟩
  · have hmB : mayB k n t = true := by simp [mayB, hm]
    rw [hr _ hp]
    rcases hm with ⟨rfl, rfl, ht⟩ | ⟨rfl, ht⟩ | ⟨rfl | rfl, rfl, ht⟩
    · go_enter Tryz.func30, Tryz.ntmps30
      go_wp2_with (first
        | (go_at_call 20; with_reducible refine Calls.mono (rmay_walk _ _ _ _) ?_; rintro e w1 ⟨rfl, hb1⟩; obtain ⟨d0, d1, d2, d3, d4, d5⟩ := HV.out _ hb1; have HB1 := hide hb1; clear hb1))
      go_ret2
      refine ⟨?_, HB0.out _ HB1.out⟩
      simp [printL, nullL]
    · go_enter Tryz.func30, Tryz.ntmps30
      go_wp2_with (first
        | (go_at_call 20; with_reducible refine Calls.mono (rmay_walk _ _ _ _) ?_; rintro e w1 ⟨rfl, hb1⟩; obtain ⟨d0, d1, d2, d3, d4, d5⟩ := HV.out _ hb1; have HB1 := hide hb1; clear hb1)
        | (go_at_call 39; with_reducible refine Calls.mono (fmt_walk _ h0 h1 _ (HE.out _ HB1.out)) ?_; rintro e w2 ⟨rfl, hb2⟩; have HB2 := hide (below_trans HB1.out hb2); clear hb2))
      go_ret2
      refine ⟨?_, HB0.out _ HB2.out⟩
      simp [printL]
    · have := rprint2 t (by rw [← hsz]; exact ht) w
      simpa [printL] using this
    · have := rprint3 t (by rw [← hsz]; exact ht) w
      simpa [printL] using this
  · have hmB : mayB k n t = false := by simp [mayB, hm]
    rw [hr _ hp]
    go_enter Tryz.func30, Tryz.ntmps30
    go_wp2_with (first
      | (go_at_call 20; with_reducible refine Calls.mono (rmay_walk _ _ _ _) ?_; rintro e w1 ⟨rfl, hb1⟩; have HB1 := hide hb1; clear hb1))
    go_ret2
    exact ⟨rfl, HB0.out _ HB1.out⟩
end Go.Proofs.YtghemaghbpekfaaGreatDoor
