/- How the program writes a row. -/
import Derived.Test.YtghemaghbpekfaaGreatDoorUD
namespace Go.Proofs.YtghemaghbpekfaaGreatDoor
open Go.ChangeShapes Go.WideShapes Go.ChangeAt Go.RowKit
set_option linter.unusedVariables false

theorem keep_block {W V : World} {g : Nat} {ob : Obj} (hb : W.heap[g]? = some ob) (h : Below W.heap.size W V) : V.heap[g]? = some ob := by
  rw [h.block g (Array.getElem?_eq_some_iff.1 hb).1]; exact hb

set_option maxHeartbeats 2000000 in
set_option maxRecDepth 10000 in
theorem prow_ok (b o len cap : Nat) (K N : Nat → Int) (T : Nat → ByteArray) (hlen : len ≤ 16) (hall : ∀ i, i < len → mayB (K i) (N i) (T i) = true) (hin : inRow len N) (w : World) (hE : Env w) (h : RowAt w b o len K N T) :
    Calls Tryz.prog 10 #[.slice (some ⟨b, o, none⟩) len cap] w fun e w' => e = .returned (.tuple #[.string ⟨(litsL K N T len).toArray⟩, .int .i64 0]) ∧ Below w.heap.size w w' := by
  have HC := hide (check_some b o len cap K N T (by omega) w h)
  rw [chk_ok hall (by omega)] at HC
  have HR := hide h
  have HA := hide hall
  have HI := hide hin
  have HE : Hid (∀ V, Below w.heap.size w V → Env V) := fun V hV => hE.below hV
  obtain ⟨i, hi, hz, hsz, hby⟩ := strs_info
  have HMk : Hid (∀ W : World, (Instr.makeSlice 55 (.int .i64 (len : Int)) (.int .i64 (len : Int))).run Tryz.prog W = .ok (.slice (some ⟨W.heap.size, 0, none⟩) len len) (W.alloc (.cells (madeCells (Value.string ⟨#[]⟩).cells len) 9))) := fun W => by
    have := run_make (P := Tryz.prog) W 55 9 i (.string ⟨#[]⟩) Tryz.underlying55 hi hz .i64 .i64 (len : Int) (len : Int) (by omega) (Int.le_refl _) (by rw [hby]; omega) (by omega)
    simpa [hsz] using this
  clear h hall hin hE hi hz hsz hby
  go_enter Tryz.func10, Tryz.ntmps10
  go_wp2_with (first
    | (go_at_call 26; with_reducible refine Calls.mono HC.out ?_; rintro e w1 ⟨rfl, hb⟩; have HB := hide hb; have hmk := HMk.out w1; clear hb))
  go_loopw [18] (fun iv wr => ∃ (j : Nat) (cur : Array Value), j ≤ len ∧ iv = .int .i64 (j : Int) ∧ wr.heap[w1.heap.size]? = some (.cells cur 9 (0, 0)) ∧ cur.size = len ∧ (∀ i, i < j → cur[i]? = some (.string (litB (K i) (N i) (T i)))) ∧ Below w1.heap.size w1 wr) (fun iv _ => len - (intOf iv).toNat)
  case atStart => exact ⟨0, _, Nat.zero_le _, rfl, heap_alloc_new w1 _, size_madeCells _ _, fun i hi => by omega, new_below w1 _ rfl⟩
  case round =>
    obtain ⟨j, cur, hj, rfl, hblk, hcs, hcur, hb⟩ := hrel
    have HBk := hide hblk
    have HCs := hide hcs
    have HCu := hide hcur
    have HBj := hide hb
    clear hblk hcs hcur hb
    by_cases hlt : j < len
    · have l1 : (j : Int) < (len : Int) := by omega
      have l0 : (0 : Int) ≤ (j : Int) := by omega
      have hw1 : IntKind.i64.wrap ((j : Int) + 1) = (j : Int) + 1 := by rw [IntKind.wrap_i64]; omega
      obtain ⟨c0, c1, c2⟩ := (HR.out.later (below_trans HB.out HBj.out)) j hlt
      have HN := hide (below_trans HBj.out (new_below wr (.cells #[.int .i64 (K j), .int .i64 (N j), .string (T j)] 24) rfl))
      have HP := hide (print_lit (K j) (N j) (T j) (HI.out j hlt).1 (HI.out j hlt).2 (HA.out j hlt) _ (HE.out _ (below_trans HB.out HN.out)))
      have HBn := hide (keep_block HBk.out (new_below wr (.cells #[.int .i64 (K j), .int .i64 (N j), .string (T j)] 24) rfl))
      obtain ⟨old, hold⟩ : ∃ v, cur[j]? = some v := ⟨cur[j]'(by rw [HCs.out]; exact hlt), by simp [HCs.out, hlt]⟩
      have HOld := hide hold
      clear hold
      go_wp2_with (first
        | (go_at_call 27; with_reducible refine Calls.mono HP.out ?_; rintro e w2 ⟨rfl, hb⟩; have HB2 := hide (keep_block HBn.out hb); have HX := hide (below_trans HN.out hb); have d0 := (block_cell HB2.out j).trans HOld.out; have f0 := block_frozen HB2.out j; clear hb))
      refine ⟨⟨j + 1, _, hlt, rfl, set_block HB2.out j _, by rw [Array.size_setIfInBounds]; exact HCs.out, fun i hi => ?_, HX.out.setCell (Nat.le_refl _) _⟩, ?_⟩
      · by_cases e : i = j
        · subst e
          rw [Array.getElem?_setIfInBounds_self_of_lt (by rw [HCs.out]; exact hlt)]
        · rw [Array.getElem?_setIfInBounds_ne (fun h => e h.symm)]
          exact HCu.out i (by omega)
      · simp only [intOf]; omega
    · have l1 : ¬ (j : Int) < (len : Int) := by omega
      obtain rfl : len = j := by omega
      have hjl : (litsL K N T len).length ≤ len * 1001 := jn_length _ len (fun i hi => lit_len (HI.out i (by omega)).1 (HI.out i (by omega)).2 (HA.out i (by omega)))
      have HJ := hide (Tryz.strings_Join w1.heap.size 0 len ((List.range len).map fun i => litB (K i) (N i) (T i)) ⟨#[44]⟩ wr (fun i x hx => by
        have hi : i < len := by simpa using (List.getElem?_eq_some_iff.1 hx).1
        rw [List.getElem?_map, List.getElem?_range hi] at hx
        obtain rfl := Option.some.inj hx
        rw [Nat.zero_add, block_cell HBk.out]
        exact HCu.out i hi) (Array.getElem?_eq_some_iff.1 HBk.out).1 (by simp; omega) (by simp) (by
        rw [show (⟨#[44]⟩ : ByteArray).data.toList = [44] from rfl, join_jn]
        exact Nat.le_trans hjl (by omega)))
      rw [show (⟨#[44]⟩ : ByteArray).data.toList = [44] from rfl, join_jn, List.length_map, List.length_range] at HJ
      clear hjl
      go_wp2_with (first
        | (go_at_call 28; with_reducible refine Calls.mono HJ.out ?_; rintro e w2 ⟨rfl, hb⟩; have HX := hide (below_trans (below_trans HB.out HBj.out) hb); clear hb))
      go_ret2
      exact ⟨rfl, HX.out⟩

set_option maxHeartbeats 1000000 in
theorem prow_nil (p : Option Addr) (cap : Nat) (w : World) (HC : Hid (Calls Tryz.prog 26 #[.slice p 0 cap] w fun e w' => e = .returned (.int .i64 0) ∧ w = w')) :
    Calls Tryz.prog 10 #[.slice p 0 cap] w fun e w' => e = .returned (.tuple #[.string ⟨#[]⟩, .int .i64 0]) ∧ Below w.heap.size w w' := by
  obtain ⟨i, hi, hz, hsz, hby⟩ := strs_info
  have hmk : (Instr.makeSlice 55 (.int .i64 0) (.int .i64 0)).run Tryz.prog w = .ok (.slice (some ⟨w.heap.size, 0, none⟩) 0 0) (w.alloc (.cells (madeCells (Value.string ⟨#[]⟩).cells 0) 9)) := by
    have := run_make (P := Tryz.prog) w 55 9 i (.string ⟨#[]⟩) Tryz.underlying55 hi hz .i64 .i64 0 0 (by omega) (Int.le_refl _) (by omega) (by omega)
    simpa [hsz] using this
  have HB := hide (new_below w (.cells (madeCells (Value.string ⟨#[]⟩).cells 0) 9) rfl)
  clear hi hz hsz hby
  go_enter Tryz.func10, Tryz.ntmps10
  go_wp2_with (first
    | (go_at_call 26; with_reducible refine Calls.mono HC.out ?_; rintro e w1 ⟨rfl, rfl⟩))
  refine wp_loop_rounds 1 ?_
  rw [rounds_succ]
  go_wp2_with (first
    | (go_at_call 28; with_reducible refine Calls.mono (Tryz.strings_Join_none _ _ _ _) ?_; rintro e w2 ⟨rfl, rfl⟩))
  go_ret2
  exact ⟨rfl, HB.out⟩
set_option maxHeartbeats 1000000 in
theorem rprow_nil (p : Option Addr) (cap : Nat) (w : World) (HC : Hid (Calls Tryz.prog 29 #[.slice p 0 cap] w fun e w' => e = .returned (.int .i64 0) ∧ w = w')) :
    Calls Tryz.prog 12 #[.slice p 0 cap] w fun e w' => e = .returned (.tuple #[.string ⟨#[]⟩, .int .i64 0]) ∧ Below w.heap.size w w' := by
  go_enter Tryz.func12, Tryz.ntmps12
  go_wp2_with (first
    | (go_at_call 29; with_reducible refine Calls.mono HC.out ?_; rintro e w1 ⟨rfl, rfl⟩))
  refine wp_loop_rounds 1 ?_
  rw [rounds_succ]
  go_wp2
  go_ret2
  exact ⟨rfl, Below.refl _ _⟩
end Go.Proofs.YtghemaghbpekfaaGreatDoor
