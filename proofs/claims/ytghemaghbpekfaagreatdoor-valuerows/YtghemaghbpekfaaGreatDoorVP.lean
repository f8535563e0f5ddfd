/- Print. -/
import Derived.Test.YtghemaghbpekfaaGreatDoorVU
import Derived.Laws.Concat
import Derived.Lib.ReplaceLaws
namespace Go.Proofs.YtghemaghbpekfaaGreatDoor
open Go.ChangeShapes Go.WideShapes Go.ChangeAt Go.RowKit
set_option linter.unusedVariables false

theorem cat2 (x : List UInt8) : (⟨#[39]⟩ : ByteArray) ++ ⟨x.toArray⟩ ++ ⟨#[39]⟩ = ⟨(39 :: (x ++ [39])).toArray⟩ := by
  rw [show (⟨#[39]⟩ : ByteArray) = ⟨[39].toArray⟩ from rfl, ByteArray.mk_append_mk, ByteArray.mk_append_mk]; simp
theorem cat3 (x : List UInt8) : (⟨#[120, 39]⟩ : ByteArray) ++ ⟨x.toArray⟩ ++ ⟨#[39]⟩ = ⟨(120 :: 39 :: (x ++ [39])).toArray⟩ := by
  rw [show (⟨#[39]⟩ : ByteArray) = ⟨[39].toArray⟩ from rfl, show (⟨#[120, 39]⟩ : ByteArray) = ⟨[120, 39].toArray⟩ from rfl, ByteArray.mk_append_mk, ByteArray.mk_append_mk]; simp

theorem grow_below (w : World) (k : Nat) (os : Array Obj) : Below w.heap.size w (Sort.grow (w.drewN k) os) :=
  ⟨rfl, rfl, rfl, by first | (simp [Sort.grow]; done) | (simp [Sort.grow]; omega), fun i hi => by
    show ((w.drewN k).heap ++ os)[i]? = _
    rw [Array.getElem?_append_left (by show i < w.heap.size; omega)]
    rfl⟩

theorem fmt_walk (n : Int) (h0 : -9223372036854775808 ≤ n) (h1 : n ≤ 9223372036854775807) (w : World) (hE : Env w) :
    Calls Tryz.prog 39 #[.int .i64 n, .int .i64 10] w fun e w' => e = .returned (.string ⟨(Lib.itoa n).toArray⟩) ∧ Below w.heap.size w w' := by
  refine (Tryz.strconv_FormatInt_10 n h0 h1 w hE.tab).mono ?_
  rintro e w1 ⟨rfl, k, os, rfl⟩
  exact ⟨rfl, grow_below _ _ _⟩

theorem rep_walk (s old new : ByteArray) (hs : s.size ≤ 1000) (h1 : 1 ≤ old.size) (h2 : new.size ≤ 2) (w : World) (hE : Env w) :
    Calls Tryz.prog 40 #[.string s, .string old, .string new] w fun e w' => e = .returned (.string ⟨(Lib.replaceAll s.data.toList old.data.toList new.data.toList).toArray⟩) ∧ Below w.heap.size w w' := by
  obtain ⟨m, hm⟩ := hE.m
  refine Tryz.strings_ReplaceAll s old new m w (by omega) hm h1 ?_
  have := Lib.countB_mul_le old h1 s.size s (Nat.le_refl _)
  have h3 : Lib.countB s old ≤ s.size := Nat.le_trans (Nat.le_mul_of_pos_right _ (by omega)) this
  have h4 : Lib.countB s old * new.size ≤ 1000 * 2 := Nat.mul_le_mul (by omega) h2
  omega

theorem print_no (k n : Int) (t : ByteArray) (hm : ¬ MayL k n t.data.toList) (w : World) :
    Calls Tryz.prog 27 #[val k n t] w fun e w' => e = .returned (.tuple #[.string ⟨#[]⟩, .int .i64 2]) ∧ Below w.heap.size w w' := by
  have hmB : mayB k n t = false := by simp [mayB, hm]
  go_enter Tryz.func27, Tryz.ntmps27
  go_wp2_with (first
    | (go_at_call 16; with_reducible refine Calls.mono (may_walk _ _ _ _) ?_; rintro e w1 ⟨rfl, hb1⟩))
  go_ret2
  exact ⟨rfl, below_trans (new_below w _ rfl) hb1⟩

set_option maxHeartbeats 1000000 in
set_option maxRecDepth 10000 in
theorem print_may (k n : Int) (t : ByteArray) (h0 : -9223372036854775808 ≤ n) (h1 : n ≤ 9223372036854775807) (hm : MayL k n t.data.toList) (w : World) (hE : Env w) :
    Calls Tryz.prog 27 #[val k n t] w fun e w' => e = .returned (.tuple #[.string ⟨(printL k n t.data.toList).toArray⟩, .int .i64 0]) ∧ Below w.heap.size w w' := by
  have hmB : mayB k n t = true := by simp [mayB, hm]
  have hsz : t.data.toList.length = t.size := by simp
  have HH : Hid (∀ w1, Below (w.alloc (Obj.cells #[Value.int IntKind.i64 k, Value.int IntKind.i64 n, Value.string t] 24)).heap.size (w.alloc (Obj.cells #[Value.int IntKind.i64 k, Value.int IntKind.i64 n, Value.string t] 24)) w1 →
      w1.cell? ⟨w.heap.size, 0, none⟩ = some (.int .i64 k) ∧ w1.cell? ⟨w.heap.size, 1, none⟩ = some (.int .i64 n) ∧ w1.cell? ⟨w.heap.size, 2, none⟩ = some (.string t) ∧ Env w1 ∧ Below w.heap.size w w1) :=
    fun w1 hb => ⟨cell_later hb (new_cells w _ _ rfl 0 _ rfl), cell_later hb (new_cells w _ _ rfl 1 _ rfl), cell_later hb (new_cells w _ _ rfl 2 _ rfl), hE.below (below_trans (new_below w _ rfl) hb), below_trans (new_below w _ rfl) hb⟩
  have hmm := hm
  rcases hm with ⟨rfl, rfl, ht⟩ | ⟨rfl, ht⟩ | ⟨rfl | rfl, rfl, ht⟩
  · go_enter Tryz.func27, Tryz.ntmps27
    go_wp2_with (first
      | (go_at_call 16; with_reducible refine Calls.mono (may_walk _ _ _ _) ?_; rintro e w1 ⟨rfl, hb1⟩; obtain ⟨c0, c1, c2, hE1, hB1⟩ := HH.out w1 hb1; clear hb1))
    go_ret2
    refine ⟨?_, hB1⟩
    simp [printL, nullL]
  · go_enter Tryz.func27, Tryz.ntmps27
    go_wp2_with (first
      | (go_at_call 16; with_reducible refine Calls.mono (may_walk _ _ _ _) ?_; rintro e w1 ⟨rfl, hb1⟩; obtain ⟨c0, c1, c2, hE1, hB1⟩ := HH.out w1 hb1; clear hb1)
      | (go_at_call 39; with_reducible refine Calls.mono (fmt_walk _ h0 h1 _ hE1) ?_; rintro e w2 ⟨rfl, hb2⟩))
    go_ret2
    refine ⟨?_, below_trans hB1 hb2⟩
    simp [printL]
  · have hR := fun (V : World) (hV : Env V) => rep_walk t ⟨#[39]⟩ ⟨#[39, 39]⟩ (by rw [← hsz]; omega) (by decide) (by decide) V hV
    obtain ⟨X, hX⟩ : ∃ X : ByteArray, X = ⟨(Lib.replaceAll t.data.toList [39] [39, 39]).toArray⟩ := ⟨_, rfl⟩
    have hXs : X.size ≤ 1000 := by
      rw [hX, esc_eq]
      have := esc_length t.data.toList
      simp [ByteArray.size]
      omega
    rw [show (⟨#[39]⟩ : ByteArray).data.toList = [39] from rfl, show (⟨#[39, 39]⟩ : ByteArray).data.toList = [39, 39] from rfl, ← hX] at hR
    have HX : Hid (X = ⟨(Lib.replaceAll t.data.toList [39] [39, 39]).toArray⟩) := hX
    have HR : Hid (∀ V, Env V → Calls Tryz.prog 40 #[.string t, .string ⟨#[39]⟩, .string ⟨#[39, 39]⟩] V fun e w' => e = .returned (.string X) ∧ Below V.heap.size V w') := hR
    have s1 : ¬ 9223372036854775807 < 1 + X.size := by omega
    have s2 : ¬ 9223372036854775807 < 1 + X.size + 1 := by omega
    rw [hsz] at ht
    clear hX hR
    go_enter Tryz.func27, Tryz.ntmps27
    go_wp2_with (first
      | (go_at_call 16; with_reducible refine Calls.mono (may_walk _ _ _ _) ?_; rintro e w1 ⟨rfl, hb1⟩; obtain ⟨c0, c1, c2, hE1, hB1⟩ := HH.out w1 hb1; clear hb1)
      | (go_at_call 40; with_reducible refine Calls.mono (HR.out _ hE1) ?_; rintro e w2 ⟨rfl, hb2⟩))
    go_ret2
    refine ⟨?_, below_trans hB1 hb2⟩
    rw [HX.out, esc_eq, cat2]
    simp [printL]
  · have hR := fun (V : World) => hex_walk t (by rw [← hsz]; omega) V
    obtain ⟨X, hX⟩ : ∃ X : ByteArray, X = ⟨(hexs t.data.toList).toArray⟩ := ⟨_, rfl⟩
    have hXs : X.size ≤ 1000 := by
      rw [hX]
      have := hexs_length t.data.toList
      simp [ByteArray.size]
      omega
    rw [← hX] at hR
    have HX : Hid (X = ⟨(hexs t.data.toList).toArray⟩) := hX
    have HR : Hid (∀ V, Calls Tryz.prog 41 #[.string t] V fun e w' => e = .returned (.string X) ∧ Below V.heap.size V w') := hR
    have s1 : ¬ 9223372036854775807 < 2 + X.size := by omega
    have s2 : ¬ 9223372036854775807 < 2 + X.size + 1 := by omega
    rw [hsz] at ht
    clear hX hR
    go_enter Tryz.func27, Tryz.ntmps27
    go_wp2_with (first
      | (go_at_call 16; with_reducible refine Calls.mono (may_walk _ _ _ _) ?_; rintro e w1 ⟨rfl, hb1⟩; obtain ⟨c0, c1, c2, hE1, hB1⟩ := HH.out w1 hb1; clear hb1)
      | (go_at_call 41; with_reducible refine Calls.mono (HR.out _) ?_; rintro e w2 ⟨rfl, hb2⟩))
    go_ret2
    refine ⟨?_, below_trans hB1 hb2⟩
    rw [HX.out, cat3]
    simp [printL]
end Go.Proofs.YtghemaghbpekfaaGreatDoor
