/- How a row is written. -/
import Derived.Test.YtghemaghbpekfaaGreatDoorUA
import Derived.Test.YtghemaghbpekfaaGreatDoorXB
import Derived.Test.YtghemaghbpekfaaGreatDoorRB
import Derived.Laws.MakeOwn
namespace Go.Proofs.YtghemaghbpekfaaGreatDoor
open Go.ChangeShapes Go.WideShapes Go.ChangeAt Go.RowKit
set_option linter.unusedVariables false

/-- Texts with commas between them. -/
def jn (R : Nat → List UInt8) : Nat → List UInt8
  | 0 => []
  | j + 1 => (if 0 < j then jn R j ++ [44] else jn R j) ++ R j
theorem jn_tail (R : Nat → List UInt8) : ∀ n, jn R (n + 1) = R 0 ++ Lib.joinTail [44] ((List.range n).map fun i => R (i + 1))
  | 0 => by simp [jn, Lib.joinTail]
  | n + 1 => by
    have h := jn_tail R n
    rw [jn, if_pos (by omega), h, List.range_succ]
    simp [Lib.joinTail, List.append_assoc]
theorem join_jn (R : Nat → ByteArray) : ∀ n, Lib.join (((List.range n).map R).map (·.data.toList)) [44] = jn (fun i => (R i).data.toList) n
  | 0 => rfl
  | n + 1 => by
    rw [List.range_succ_eq_map, List.map_cons, List.map_cons, Lib.join_cons, jn_tail]
    simp [List.map_map, Function.comp_def]
theorem jn_length (R : Nat → List UInt8) : ∀ n, (∀ i, i < n → (R i).length ≤ 1000) → (jn R n).length ≤ n * 1001
  | 0, _ => by simp [jn]
  | n + 1, h => by
    have h1 := jn_length R n (fun i hi => h i (by omega))
    have h2 := h n (by omega)
    rw [jn]
    split <;> simp <;> omega

theorem bsz (s : ByteArray) : s.data.toList.length = s.size := by cases s; rfl
/-- A value's literal. -/
def litB (k n : Int) (t : ByteArray) : ByteArray := ⟨(printL k n t.data.toList).toArray⟩
def litsL (K N : Nat → Int) (T : Nat → ByteArray) (n : Nat) : List UInt8 := jn (fun i => (litB (K i) (N i) (T i)).data.toList) n
def inRow (len : Nat) (N : Nat → Int) : Prop := ∀ i, i < len → -9223372036854775808 ≤ N i ∧ N i ≤ 9223372036854775807
theorem lit_len {k n : Int} {t : ByteArray} (h0 : -9223372036854775808 ≤ n) (h1 : n ≤ 9223372036854775807) (hm : mayB k n t = true) : (litB k n t).data.toList.length ≤ 1000 := by
  have hM : MayL k n t.data.toList := by simpa [mayB] using hm
  simpa [litB] using printL_length h0 h1 hM
theorem print_lit (k n : Int) (t : ByteArray) (h0 : -9223372036854775808 ≤ n) (h1 : n ≤ 9223372036854775807) (hm : mayB k n t = true) (w : World) (hE : Env w) :
    Calls Tryz.prog 27 #[.agg #[.int .i64 k, .int .i64 n, .string t]] w fun e w' => e = .returned (.tuple #[.string (litB k n t), .int .i64 0]) ∧ Below w.heap.size w w' :=
  print_may k n t h0 h1 (by simpa [mayB] using hm) w hE
theorem rprint_lit (k n : Int) (t : ByteArray) (h0 : -9223372036854775808 ≤ n) (h1 : n ≤ 9223372036854775807) (hm : mayB k n t = true) (w : World) (hE : Env w) :
    Calls Tryz.prog 30 #[.agg #[.int .i64 k, .int .i64 n, .string t]] w fun e w' => e = .returned (.tuple #[.string (litB k n t), .int .i64 0]) ∧ Below w.heap.size w w' :=
  rprint_walk k n t h0 h1 (litB k n t) 0 (.inl ⟨by simpa [mayB] using hm, by simp [litB], rfl⟩) w hE

theorem strs_info : ∃ i, Tryz.prog.info? 9 = some i ∧ i.zero = some (.string ⟨#[]⟩) ∧ i.size = 1 ∧ i.bytes = 16 := by
  have h : (Tryz.prog.info? 9).map (fun i => (i.zero, i.size, i.bytes)) = some (some (.string ⟨#[]⟩), 1, 16) := by kernel_rfl
  obtain ⟨i, h1, h2⟩ := Option.map_eq_some_iff.1 h
  simp only [Prod.mk.injEq] at h2
  exact ⟨i, h1, h2.1, h2.2.1, h2.2.2⟩

set_option maxHeartbeats 1000000 in
theorem prow_bad (v : Value) (E : Int) (h0 : E ≠ 0) (w : World) (HC : Hid (Calls Tryz.prog 26 #[v] w fun e w' => e = .returned (.int .i64 E) ∧ Below w.heap.size w w')) :
    Calls Tryz.prog 10 #[v] w fun e w' => e = .returned (.tuple #[.string ⟨#[]⟩, .int .i64 E]) ∧ Below w.heap.size w w' := by
  go_enter Tryz.func10, Tryz.ntmps10
  go_wp2_with (first
    | (go_at_call 26; with_reducible refine Calls.mono HC.out ?_; rintro e w1 ⟨rfl, hb⟩; have HB := hide hb; clear hb))
  go_ret2
  exact ⟨rfl, HB.out⟩
set_option maxHeartbeats 1000000 in
theorem rprow_bad (v : Value) (E : Int) (h0 : E ≠ 0) (w : World) (HC : Hid (Calls Tryz.prog 29 #[v] w fun e w' => e = .returned (.int .i64 E) ∧ Below w.heap.size w w')) :
    Calls Tryz.prog 12 #[v] w fun e w' => e = .returned (.tuple #[.string ⟨#[]⟩, .int .i64 E]) ∧ Below w.heap.size w w' := by
  go_enter Tryz.func12, Tryz.ntmps12
  go_wp2_with (first
    | (go_at_call 29; with_reducible refine Calls.mono HC.out ?_; rintro e w1 ⟨rfl, hb⟩; have HB := hide hb; clear hb))
  go_ret2
  exact ⟨rfl, HB.out⟩

set_option maxHeartbeats 2000000 in
set_option maxRecDepth 10000 in
theorem rprow_ok (b o len cap : Nat) (K N : Nat → Int) (T : Nat → ByteArray) (hlen : len ≤ 16) (hall : ∀ i, i < len → mayB (K i) (N i) (T i) = true) (hin : inRow len N) (w : World) (hE : Env w) (h : RowAt w b o len K N T) :
    Calls Tryz.prog 12 #[.slice (some ⟨b, o, none⟩) len cap] w fun e w' => e = .returned (.tuple #[.string ⟨(litsL K N T len).toArray⟩, .int .i64 0]) ∧ Below w.heap.size w w' := by
  have HC := hide (rcheck_some b o len cap K N T (by omega) w h)
  rw [chk_ok hall (by omega)] at HC
  have HR := hide h
  have HA := hide hall
  have HI := hide hin
  have HE : Hid (∀ V, Below w.heap.size w V → Env V) := fun V hV => hE.below hV
  clear h hall hin hE
  go_enter Tryz.func12, Tryz.ntmps12
  go_wp2_with (first
    | (go_at_call 29; with_reducible refine Calls.mono HC.out ?_; rintro e w1 ⟨rfl, hb⟩; have HB := hide hb; clear hb))
  go_loopw [6, 5] (fun iv sv wr => ∃ j : Nat, j ≤ len ∧ iv = .int .i64 (j : Int) ∧ sv = .string ⟨(litsL K N T j).toArray⟩ ∧ Below w.heap.size w wr) (fun iv _ _ => len - (intOf iv).toNat)
  case atStart => exact ⟨0, Nat.zero_le _, rfl, rfl, HB.out⟩
  case round =>
    obtain ⟨j, hj, rfl, rfl, hb⟩ := hrel
    have HBj := hide hb
    clear hb
    by_cases hlt : j < len
    · have l1 : (j : Int) < (len : Int) := by omega
      have l0 : (0 : Int) ≤ (j : Int) := by omega
      have hw1 : IntKind.i64.wrap ((j : Int) + 1) = (j : Int) + 1 := by rw [IntKind.wrap_i64]; omega
      obtain ⟨c0, c1, c2⟩ := (HR.out.later HBj.out) j hlt
      have HP := hide (rprint_lit (K j) (N j) (T j) (HI.out j hlt).1 (HI.out j hlt).2 (HA.out j hlt) wr (HE.out _ HBj.out))
      have hll := lit_len (HI.out j hlt).1 (HI.out j hlt).2 (HA.out j hlt)
      have hjl : (litsL K N T j).length ≤ j * 1001 := jn_length _ j (fun i hi => lit_len (HI.out i (by omega)).1 (HI.out i (by omega)).2 (HA.out i (by omega)))
      obtain ⟨A, hA⟩ : ∃ A : ByteArray, A = ⟨(litsL K N T j).toArray⟩ := ⟨_, rfl⟩
      have hAs : A.size = (litsL K N T j).length := by rw [← bsz A, hA]
      obtain ⟨B, hBd⟩ : ∃ B : ByteArray, B = litB (K j) (N j) (T j) := ⟨_, rfl⟩
      have hBs : B.size ≤ 1000 := by rw [← bsz B, hBd]; exact hll
      have hz1 : ¬ (9223372036854775807 : Int) < (A.size : Int) + (B.size : Int) := by omega
      have hz2 : ¬ (9223372036854775807 : Int) < (A.size : Int) + 1 := by omega
      have hz3 : ¬ (9223372036854775807 : Int) < (A.size : Int) + 1 + (B.size : Int) := by omega
      have hz1' : ¬ 9223372036854775807 < A.size + B.size := by omega
      have hz2' : ¬ 9223372036854775807 < A.size + 1 := by omega
      have hz3' : ¬ 9223372036854775807 < A.size + 1 + B.size := by omega
      rw [← hBd] at HP
      rw [← hA]
      have HAd := hide hA
      have HBd := hide hBd
      clear hA hBd hll hjl hAs hBs
      by_cases hj0 : 0 < j
      · have l4 : (0 : Int) < (j : Int) := by omega
        go_wp2_with (first
          | (go_at_call 30; with_reducible refine Calls.mono HP.out ?_; rintro e w2 ⟨rfl, hb⟩; have HX := hide (below_trans HBj.out hb); clear hb))
        refine ⟨⟨j + 1, hlt, rfl, ?_, HX.out⟩, ?_⟩
        · congr 1
          refine bytes_inj ?_
          rw [HAd.out, HBd.out]
          simp [litsL, jn, hj0]
        · simp only [intOf]; omega
      · have l4 : ¬ (0 : Int) < (j : Int) := by omega
        go_wp2_with (first
          | (go_at_call 30; with_reducible refine Calls.mono HP.out ?_; rintro e w2 ⟨rfl, hb⟩; have HX := hide (below_trans HBj.out hb); clear hb))
        refine ⟨⟨j + 1, hlt, rfl, ?_, HX.out⟩, ?_⟩
        · congr 1
          refine bytes_inj ?_
          rw [HAd.out, HBd.out]
          simp [litsL, jn, hj0]
        · simp only [intOf]; omega
    · have l1 : ¬ (j : Int) < (len : Int) := by omega
      obtain rfl : len = j := by omega
      go_wp2
      go_ret2
      exact ⟨rfl, HBj.out⟩
end Go.Proofs.YtghemaghbpekfaaGreatDoor
