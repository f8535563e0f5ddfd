/- The cells of a page gone over, each with its place below their count. -/
import Derived.Maps.AppendAt
import Derived.RangeFuncWrites
import Derived.Test.YtenfjbcigkolaaaGreatOG
namespace Go.Proofs.YtenfjbcigkolaaaGreat
open Go.ChangeShapes Go.WideShapes Go.ChangeAt Go.RowKit Go.Shelf
set_option linter.unusedVariables false
attribute [local go_sem] Oper.semAt_some

set_option maxRecDepth 100000 in
set_option maxHeartbeats 2000000 in
theorem cells1_inF (l : List UInt8) (hl : l.length = 256) (c : Nat) (hcv : cntV l = c) (hc : c ≤ 250) (S : Nat → ByteArray) (hS : ∀ k, k < c → 6 + c + sm l (k + 1) ≤ 256 ∧ subS l (6 + c + sm l k) (byt l (6 + k)) = S k)
    (n lp Bp : Nat) (Kp : World → World → Prop) (hKp : ∀ A B, Kp A B → B.heap[Bp]? = A.heap[Bp]?) (J Jx : List (Fin c) → World → Prop)
    (hY : ∀ pre x W, J pre W → pre.length < c → YieldAt Fence.wide (n - 1) Tryz.prog lp (encC S x.val) W fun e W' =>
      (e = .returned (.bool true) ∧ J (pre ++ [x]) W' ∧ Kp W W') ∨ (e = .returned (.bool false) ∧ Jx (pre ++ [x]) W'))
    (W : World) (hJ : AbidesFrom W.heap.size J) (hP : PAt W Bp l) (h0 : J [] W) :
    CallsIn Fence.wide n Tryz.prog 183 #[.func (.yield lp) #[] #[], .pointer (some ⟨Bp, 0, none⟩)] W fun e W' => (∃ v, e = .returned v) ∧
      ((∃ ys, ys = List.finRange c ∧ J ys W') ∨ (∃ pre, True ∧ Jx pre W')) := by
  have HP := hide hP
  have HL := hide hl
  have HC : Hid (∀ V, Calls Tryz.prog 144 #[.agg (bc l)] V fun e w' => e = .returned (.int .i64 (c : Int)) ∧ Below V.heap.size V w') := fun V => by rw [← hcv]; exact count_walk l hl V
  have e1 : IntKind.i64.wrap (6 + (c : Int)) = 6 + (c : Int) := by rw [IntKind.wrap_i64]; omega
  have hs : ∀ V : World, (Instr.sliceAt 32 (.pointer (some ⟨Bp, 0, none⟩)) (some (.int .i64 6)) (some (.int .i64 (6 + (c : Int)))) none).run Tryz.prog V = .ok (.slice (some ⟨Bp, 6, none⟩) c (256 - 6)) V := fun V => cut_page V Bp (x := 6) (y := 6 + (c : Int)) 6 c rfl rfl (by omega) (by omega)
  refine callsIn_of_wp Tryz.func183 rfl trivial ?_ rfl
  simp only [Tryz.ntmps183, List.size_toArray, List.length_cons, List.length_nil, Nat.reduceAdd, Nat.reduceSub, Array.replicate_succ, Array.replicate_zero, List.push_toArray, List.append_toArray, List.nil_append, List.cons_append]
  gi_wp2_with (first
    | (refine wpIn_loadP HL.out HP.out _ (by rfl) (by rfl) (by rfl) ?_)
    | (refine ⟨trivial, (fun h => absurd h (by decide)), ?_⟩; gi_at_call 144; refine CallsIn.mono (callsIn_wide.2 (HC.out _)) ?_; rintro e w2 ⟨rfl, hb2⟩; have HJ2 := hide (hJ _ _ _ _ h0 (grown_below hb2) (fun r e => by cases e)); have HP2 := hide (HP.out.later hb2); clear hb2))
  gi_loopw [16, 4] (fun iv av wr => ∃ k : Nat, k ≤ c ∧ iv = .int .i64 (k : Int) ∧ av = .int .i64 ((6 + c + sm l k : Nat) : Int) ∧ J ((List.finRange c).take k) wr ∧ PAt wr Bp l) (fun iv _ _ => c - (intOf iv).toNat)
  case atStart => exact ⟨0, Nat.zero_le _, rfl, rfl, HJ2.out, HP2.out⟩
  case round =>
    obtain ⟨k, hk, rfl, rfl, hJs, hPr⟩ := hrel
    by_cases hlt : k < c
    · obtain ⟨hle, hSk⟩ := hS k hlt
      obtain ⟨fn, tmps, assign, body, hy, hR⟩ := hY _ ⟨k, hlt⟩ wr hJs (by rw [List.length_take, List.length_finRange]; omega)
      have HTk : Hid ((List.finRange c).take k ++ [⟨k, hlt⟩] = (List.finRange c).take (k + 1)) := by
        show _ = _
        rw [List.take_add_one, List.getElem?_eq_getElem (by rw [List.length_finRange]; exact hlt)]
        simp
      simp only [encC] at hy
      have HR := hide hR
      have HPr := hide hPr
      have hlt' : (k : Int) < (c : Int) := by omega
      have hk0 : (0 : Int) ≤ (k : Int) := by omega
      have ck := hPr.cell (k := 6 + k) (by omega)
      have bk := byt_lt l (6 + k)
      simp only [sm] at hle
      have w1 : IntKind.i64.wrap (((6 + c + sm l k : Nat) : Int) + (byt l (6 + k) : Int)) = ((6 + c + sm l k : Nat) : Int) + (byt l (6 + k) : Int) := by rw [IntKind.wrap_i64]; omega
      have w2 : IntKind.i64.wrap (byt l (6 + k) : Int) = (byt l (6 + k) : Int) := by rw [IntKind.wrap_i64]; omega
      have w3 : IntKind.i64.wrap ((k : Int) + 1) = (k : Int) + 1 := by rw [IntKind.wrap_i64]; omega
      obtain ⟨x1, hs1, hx1⟩ := cut_page' Bp (x := 6 + (c : Int) + (sm l k : Int)) (y := 6 + (c : Int) + (sm l k : Int) + (byt l (6 + k) : Int)) (6 + c + sm l k) (byt l (6 + k)) (by omega) (by omega) (by omega)
      have hv1 := conv_page HL.out hPr x1 (6 + c + sm l k) (byt l (6 + k)) (256 - (6 + c + sm l k)) (by omega) hx1
      rw [hSk] at hv1
      clear hR hPr hS hY hx1
      gi_wp2
      refine ⟨(fun h => absurd h (by decide)), HR.out.mono ?_⟩
      rintro e W3 (⟨rfl, hJ3, hk3⟩ | ⟨rfl, hJx3⟩)
      · have hP3 : PAt W3 Bp l := by
          show W3.heap[Bp]? = _
          rw [hKp _ _ hk3]; exact HPr.out
        gi_wp2
        go_roundw
        case rel => exact ⟨k + 1, by omega, by simp, by simp only [sm]; exact congrArg (Value.int IntKind.i64) (by omega), by rw [← HTk.out]; exact hJ3, hP3⟩
        case measure => simp [intOf]; omega
      · gi_wp2
        refine bodyPost_ret (results_none rfl _ _ _) rfl ?_
        exact ⟨⟨_, rfl⟩, .inr ⟨_, trivial, hJx3⟩⟩
    · obtain rfl : k = c := by omega
      gi_wp2
      go_end0
      rw [List.take_of_length_le (by rw [List.length_finRange]; exact Nat.le_refl _)] at hJs
      exact ⟨⟨_, rfl⟩, .inl ⟨_, rfl, hJs⟩⟩

theorem cells_stopsF (l : List UInt8) (hl : l.length = 256) (c : Nat) (hcv : cntV l = c) (hc : c ≤ 250) (S : Nat → ByteArray) (hS : ∀ k, k < c → 6 + c + sm l (k + 1) ≤ 256 ∧ subS l (6 + c + sm l k) (byt l (6 + k)) = S k)
    (n Bp : Nat) (Kp : World → World → Prop) (hKp : ∀ A B, Kp A B → B.heap[Bp]? = A.heap[Bp]?) (w : World) (hB2 : Bp < w.heap.size) (hP : PAt w Bp l) :
    SeqStopsK Fence.wide n Tryz.prog 183 #[.pointer (some ⟨Bp, 0, none⟩)] (fun x : Fin c => encC S x.val) Kp (fun ys => ys = List.finRange c) (fun pre => True) c w := fun lp J Jx W hW hJ _ hY h0 =>
  cells1_inF l hl c hcv hc S hS n lp Bp Kp hKp J Jx hY W hJ (hP.later hW) h0
end Go.Proofs.YtenfjbcigkolaaaGreat
