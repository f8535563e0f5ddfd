/- Package spill: a long payload is cut, and its stub written. -/
/- Package spill: the pieces of a text gone over. -/
import Derived.Test.YthgclfhfipfknaaGreatPLG
import Derived.Test.YthgclfhfipfknaaGreatQC
namespace Go.Proofs.YthgclfhfipfknaaGreat
open Go.ChangeShapes Go.WideShapes Go.ChangeAt Go.RowKit Go.Maps
set_option linter.unusedVariables false

set_option maxRecDepth 20000 in
theorem cut_l (w : World) (s : ByteArray) (hs : 40 < s.size) : Calls Tryz.prog 43 #[.string s] w fun e w' => e = .returned (.tuple #[.agg (stA s.size (s.extract 0 40) 0), .string (s.extract 40 s.size)]) ∧ Below w.heap.size w w' := by
  have l1 : min (s.size : Int) 40 = 40 := by omega
  have l4 : (40 : Int) ≤ (s.size : Int) := by omega
  have l5 : (s.size : Int) ≤ (s.size : Int) := by omega
  go_enter Tryz.func43, Tryz.ntmps43
  go_wp2
  go_region
  all_goals
    go_wp2
    go_returns
    exact ⟨rfl, (below_alloc _ _).drew⟩
set_option maxRecDepth 20000 in
set_option maxHeartbeats 1000000 in
theorem text_l (w : World) (n : Nat) (s : ByteArray) (f : Nat) (hn : n ≤ 4000) (hs : s.size = 40) (hl : 40 < n) (hf : f < 4294967296) : Calls Tryz.prog 44 #[.agg (stA n s f)] w fun e w' => e = .returned (.string (⟨(Rec.putL n).toArray⟩ ++ s ++ cellB f)) ∧ Below w.heap.size w w' := by
  have HPt := hide (fun V => Rec.put_walk n (by omega) V)
  have HBh := hide (fun X => behind_e X n s f (by omega) (by omega))
  have hp : (Rec.putL n).length ≤ 9 := by rw [Rec.putL_length]; exact (Rec.vsz_pos n).2
  generalize Rec.putL n = l at *
  have hcat : ∀ V, (Op.stringOp BinOp.add ⟨l.toArray⟩ s).run Tryz.prog V = .ok (.string (⟨l.toArray⟩ ++ s)) V := fun V => run_string_add_sum V _ _ (by
    show l.toArray.size + s.size ≤ _
    rw [List.size_toArray]
    omega)
  have hsz : (⟨l.toArray⟩ ++ s : ByteArray).size ≤ 49 := by
    rw [ByteArray.size_append]
    show l.toArray.size + s.size ≤ _
    rw [List.size_toArray]
    omega
  have hcat2 : ∀ V, (Op.stringOp BinOp.add (⟨l.toArray⟩ ++ s) (cellB f)).run Tryz.prog V = .ok (.string (⟨l.toArray⟩ ++ s ++ cellB f)) V := fun V => run_string_add_sum V _ _ (by
    rw [cellB_size]; omega)
  have hc : ∀ V : World, (convert 88 9 (.slice (some ⟨V.heap.size, 0, none⟩) 4 4)).run Tryz.prog (V.alloc (.cells #[.int .u8 ((f : Int) / 16777216), .int .u8 ((f : Int) / 65536 % 256), .int .u8 ((f : Int) / 256 % 256), .int .u8 ((f : Int) % 256)] 5)) = .ok (.string (cellB f)) (V.alloc (.cells #[.int .u8 ((f : Int) / 16777216), .int .u8 ((f : Int) / 65536 % 256), .int .u8 ((f : Int) / 256 % 256), .int .u8 ((f : Int) % 256)] 5)) := fun V => by
    refine conv_piece _ V.heap.size 0 4 [UInt8.ofNat (f / 16777216), UInt8.ofNat (f / 65536), UInt8.ofNat (f / 256), UInt8.ofNat f] (fun j hj => ?_)
    have hj4 : j < 4 := by simpa using hj
    rw [Nat.zero_add, cell_of_row _ _ _ _ _ _ (heap_alloc_new V _)]
    match j, hj4 with
    | 0, _ => simp [byt]; omega
    | 1, _ => simp [byt]
    | 2, _ => simp [byt]
    | 3, _ => simp [byt]
  have HB0 := hide (below_alloc w (.cells (stA n s f) 90))
  have HK0 := hide (Blk.drew (Blk.new w (stA n s f) 90))
  have HC0 := hide (st_cells (Blk.drew (Blk.new w (stA n s f) 90)))
  have l9 : (0 : Int) < (n : Int) - (s.size : Int) := by omega
  unfold stA at HBh HB0 HC0 HK0
  have lw : IntKind.u64.wrap (n : Int) = n := by rw [IntKind.wrap_u64]; omega
  unfold stA
  go_enter Tryz.func44, Tryz.ntmps44
  go_wp2
  go_region_held3 (fun V => V.cell? ⟨w.heap.size, 0, none⟩ = some (.int .i64 n) ∧ V.cell? ⟨w.heap.size, 1, none⟩ = some (.string s) ∧ V.cell? ⟨w.heap.size, 2, none⟩ = some (.int .i64 f)) (first | exact HC0.out | exact HC4.out) (first
    | (go_at_call 117; (with_reducible refine Calls.mono (HPt.out _) ?_); rintro e w4 ⟨rfl, hb⟩; have HC4 := hide (cells3_later hb HC0.out); have HB4 := hide (below_trans HB0.out.drew hb); clear hb))
  all_goals
    go_wp2_with (first
      | (go_at_call 101; (with_reducible refine Calls.mono (HBh.out _) ?_); rintro e w5 ⟨rfl, hb⟩; have HB5 := hide (below_trans HB4.out hb); obtain ⟨m0, m1, m2⟩ := cells3_later hb HC4.out; clear hb))
    go_ret
    exact ⟨rfl, below_trans HB5.out (below_alloc _ _)⟩
end Go.Proofs.YthgclfhfipfknaaGreat

namespace Go.Proofs.YthgclfhfipfknaaGreat
open Go.ChangeShapes Go.WideShapes Go.ChangeAt Go.RowKit Go.Shelf
set_option linter.unusedVariables false
attribute [local go_sem] Oper.semAt_some

/-- A piece of a text; how many there are. -/
def pcS (s : ByteArray) (z k : Nat) : ByteArray := s.extract (k * z) (min (k * z + z) s.size)
def pcN (s : ByteArray) (z : Nat) : Nat := (s.size + (z - 1)) / z
def encP (s : ByteArray) (z k : Nat) : Array Value := #[.string (pcS s z k)]
theorem pcN_lt (s : ByteArray) (z k : Nat) (hz : 0 < z) : k < pcN s z ↔ k * z < s.size := by
  unfold pcN
  rw [Nat.lt_div_iff_mul_lt hz]
  omega
theorem pieces_e (w : World) (s : ByteArray) (z : Nat) : Calls Tryz.prog 46 #[.string s, .int .i64 (z : Int)] w fun e w' => e = .returned (.func (.func 118) #[] #[.pointer (some ⟨w.heap.size, 0, none⟩), .pointer (some ⟨w.heap.size + 1, 0, none⟩)]) ∧ w' = (w.alloc (.cells #[.string s] 9)).alloc (.cells #[.int .i64 (z : Int)] 3) := by
  go_enter Tryz.func46, Tryz.ntmps46
  go_wp2
  go_ret
  exact ⟨rfl, rfl⟩
set_option maxRecDepth 100000 in
set_option maxHeartbeats 2000000 in
theorem pieces1_in (s : ByteArray) (z : Nat) (hz : 0 < z) (hz2 : z ≤ 1000) (hs : s.size ≤ 100000) (n lp A B : Nat) (Kp : World → World → Prop) (hKp : ∀ X Y, Kp X Y → Y.heap[A]? = X.heap[A]? ∧ Y.heap[B]? = X.heap[B]?) (J Jx : List (Fin (pcN s z)) → World → Prop)
    (hY : ∀ pre x W, J pre W → pre.length < pcN s z → YieldAt Fence.wide (n - 1) Tryz.prog lp (encP s z x.val) W fun e W' =>
      (e = .returned (.bool true) ∧ J (pre ++ [x]) W' ∧ Kp W W') ∨ (e = .returned (.bool false) ∧ Jx (pre ++ [x]) W'))
    (W : World) (hJ : AbidesFrom W.heap.size J) (hA : Blk W A #[.string s] 9) (hB : Blk W B #[.int .i64 (z : Int)] 3) (h0 : J [] W) :
    CallsIn Fence.wide n Tryz.prog 118 #[.func (.yield lp) #[] #[], .pointer (some ⟨A, 0, none⟩), .pointer (some ⟨B, 0, none⟩)] W fun e W' => (∃ v, e = .returned v) ∧
      ((∃ ys, ys = List.finRange (pcN s z) ∧ J ys W') ∨ (∃ pre, (∃ r, pre ++ r = List.finRange (pcN s z)) ∧ Jx pre W')) := by
  have HJ2 := hide h0
  have HA2 := hide hA
  have HB2 := hide hB
  have HN := hide (fun k => pcN_lt s z k hz)
  clear h0 hA hB
  refine callsIn_of_wp Tryz.func118 rfl trivial ?_ rfl
  simp only [Tryz.ntmps118, List.size_toArray, List.length_cons, List.length_nil, Nat.reduceAdd, Nat.reduceSub, Array.replicate_succ, Array.replicate_zero, List.push_toArray, List.append_toArray, List.nil_append, List.cons_append]
  gi_wp2
  gi_loopw [4] (fun iv wr => ∃ k : Nat, k ≤ pcN s z ∧ iv = .int .i64 ((k * z : Nat) : Int) ∧ J ((List.finRange (pcN s z)).take k) wr ∧ Blk wr A #[.string s] 9 ∧ Blk wr B #[.int .i64 (z : Int)] 3) (fun iv _ => s.size + z - (intOf iv).toNat)
  case atStart => exact ⟨0, Nat.zero_le _, by simp, HJ2.out, HA2.out, HB2.out⟩
  case round =>
    obtain ⟨k, hk, rfl, hJs, hAr, hBr⟩ := hrel
    have cA := hAr.cell 0
    have cB := hBr.cell 0
    by_cases hlt : k < pcN s z
    · have hkz := (HN.out k).1 hlt
      obtain ⟨fn, tmps, assign, body, hy, hR⟩ := hY _ ⟨k, hlt⟩ wr hJs (by rw [List.length_take, List.length_finRange]; omega)
      have HTk : Hid ((List.finRange (pcN s z)).take k ++ [⟨k, hlt⟩] = (List.finRange (pcN s z)).take (k + 1)) := by
        show _ = _
        rw [List.take_add_one, List.getElem?_eq_getElem (by rw [List.length_finRange]; exact hlt)]
        simp
      simp only [encP, pcS] at hy
      have HR := hide hR
      have HAr := hide hAr
      have HBr := hide hBr
      have hx : k * z + z = (k + 1) * z := by rw [Nat.add_mul, Nat.one_mul]
      have HX : Hid (k * z + z = (k + 1) * z ∧ k * z < s.size) := ⟨hx, hkz⟩
      clear hx
      generalize k * z = q at *
      obtain ⟨qz, hqz⟩ : ∃ qz, q + z = qz := ⟨_, rfl⟩
      rw [hqz] at HX hy
      obtain ⟨r, hr⟩ : ∃ r, min qz s.size = r := ⟨_, rfl⟩
      rw [hr] at hy
      have m1 : (q : Int) < (s.size : Int) := by omega
      have m0 : (0 : Int) ≤ (q : Int) := by omega
      have m2 : IntKind.i64.wrap ((q : Int) + (z : Int)) = (qz : Int) := by rw [IntKind.wrap_i64]; omega
      have m3 : min (qz : Int) (s.size : Int) = (r : Int) := by omega
      have m4 : (q : Int) ≤ (r : Int) := by omega
      have m5 : (r : Int) ≤ (s.size : Int) := by omega
      have HM : Hid (q < qz) := by show q < qz; omega
      clear hR hAr hBr hY hqz hr hkz
      gi_wp2
      refine ⟨(fun h => absurd h (by decide)), HR.out.mono ?_⟩
      rintro e W3 (⟨rfl, hJ3, hk3⟩ | ⟨rfl, hJx3⟩)
      · obtain ⟨hA3, hB3⟩ := hKp _ _ hk3
        have kA : Blk W3 A #[.string s] 9 := hA3.trans HAr.out
        have kB : Blk W3 B #[.int .i64 (z : Int)] 3 := hB3.trans HBr.out
        have cB3 := kB.cell 0
        have HA3 := hide kA
        have HB3 := hide kB
        clear kA kB hA3 hB3
        gi_wp2
        go_roundw
        case rel => exact ⟨k + 1, by omega, by rw [← HX.out.1], by rw [← HTk.out]; exact hJ3, HA3.out, HB3.out⟩
        case measure => have := HM.out; simp [intOf]; omega
      · gi_wp2
        refine bodyPost_ret (results_none rfl _ _ _) rfl ?_
        exact ⟨⟨_, rfl⟩, .inr ⟨_, ⟨(List.finRange (pcN s z)).drop (k + 1), by rw [HTk.out, List.take_append_drop]⟩, hJx3⟩⟩
    · obtain rfl : k = pcN s z := by omega
      have m1 : ¬ ((pcN s z * z : Nat) : Int) < (s.size : Int) := by
        have : ¬ pcN s z * z < s.size := fun h => absurd ((HN.out (pcN s z)).2 h) (Nat.lt_irrefl _)
        omega
      gi_wp2
      go_end0
      rw [List.take_of_length_le (by rw [List.length_finRange]; exact Nat.le_refl _)] at hJs
      exact ⟨⟨_, rfl⟩, .inl hJs⟩
theorem pieces_stops (s : ByteArray) (z : Nat) (hz : 0 < z) (hz2 : z ≤ 1000) (hs : s.size ≤ 100000) (n A B : Nat) (Kp : World → World → Prop) (hKp : ∀ X Y, Kp X Y → Y.heap[A]? = X.heap[A]? ∧ Y.heap[B]? = X.heap[B]?) (w : World) (hA : Blk w A #[.string s] 9) (hB : Blk w B #[.int .i64 (z : Int)] 3) :
    SeqStopsK Fence.wide n Tryz.prog 118 #[.pointer (some ⟨A, 0, none⟩), .pointer (some ⟨B, 0, none⟩)] (fun x : Fin (pcN s z) => encP s z x.val) Kp (fun ys => ys = List.finRange (pcN s z)) (fun pre => ∃ r, pre ++ r = List.finRange (pcN s z)) (pcN s z) w := fun lp J Jx W hW hJ _ hY h0 =>
  pieces1_in s z hz hz2 hs n lp A B Kp hKp J Jx hY W hJ (hA.later hW) (hB.later hW) h0
end Go.Proofs.YthgclfhfipfknaaGreat
