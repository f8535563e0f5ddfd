/- A frame of the log. -/
/- The frames of the log, gone over. -/
import Derived.Test.YteocmhbllckpjaaGreatB5
import Derived.RangeFuncNested
import Derived.RangeFuncBound
import Derived.RangeFuncCalls
import Derived.RangeFuncLeaves
import Derived.Shelf.Abstract
import Derived.Shelf.RegionOpen
import Derived.OwnWalkIn
import Derived.TacticsInMore
import Derived.LoopNIn
import Derived.LoopIn
namespace Go.Proofs.YteocmhbllckpjaaGreat
open Go.ChangeShapes Go.WideShapes Go.ChangeAt Go.RowKit
open Go.ChangeMaps (setBlock)
set_option linter.unusedVariables false

/-- A part of a row of bytes. -/
def subL (l : List UInt8) (o n : Nat) : List UInt8 := (l.drop o).take n
/-- The frames of a log. -/
structure Frs (t : List UInt8) (K : Nat) (N E : Nat → Nat) (P : Nat → List UInt8) : Prop where
  len : t.length = 320 * K
  fr : ∀ k, k < K → subL t (320 * k) 320 = frB (N k) (E k) (P k)
  num : ∀ k, k < K → N k ≤ 4096
  en : ∀ k, k < K → E k ≤ 4097
  ne : ∀ k, k < K → N k ≠ 0 ∨ E k ≠ 0
  pg : ∀ k, k < K → (P k).length = 256
abbrev lgV (b : Nat) (t : List UInt8) (K : Nat) : Value := .agg #[.pointer (some ⟨b, 0, none⟩), .string (bstr t), .int .i64 (K : Int)]

set_option maxHeartbeats 2000000 in
set_option maxRecDepth 10000 in
theorem frame_w (w : World) (b : Nat) (t : List UInt8) (K : Nat) (hK : K ≤ 10000) (N E : Nat → Nat) (P : Nat → List UInt8) (h : Frs t K N E P) (k : Nat) (hk : k < K) :
    Calls Tryz.prog 86 #[lgV b t K, .int .i64 ((k + 1 : Nat) : Int)] w fun x w' => x = .returned (.agg (fcl (N k : Int) (P k) (E k) true).toArray) ∧ w.grownBy w' none := by
  have e0 : IntKind.i64.wrap (((k + 1 : Nat) : Int) - 1) = (k : Int) := by rw [IntKind.wrap_i64]; omega
  have e1 : IntKind.i64.wrap (320 * (k : Int)) = 320 * (k : Int) := by rw [IntKind.wrap_i64]; omega
  have e2 : IntKind.i64.wrap (320 * (k : Int) + 320) = 320 * (k : Int) + 320 := by rw [IntKind.wrap_i64]; omega
  have hs : (bstr t).size = 320 * K := by rw [bstr_size, h.len]
  have l1 : (0 : Int) ≤ 320 * (k : Int) := by omega
  have l2 : 320 * (k : Int) ≤ 320 * (k : Int) + 320 := by omega
  have l3 : 320 * (k : Int) + 320 ≤ ((bstr t).size : Int) := by omega
  have hx : (bstr t).extract (320 * k) (320 * k + 320) = bstr (frB (N k) (E k) (P k)) := by
    rw [ext_bstr]
    have := h.fr k hk
    unfold subL at this
    rw [← this, List.drop_take]
    congr 2
    omega
  have HF : Hid (∀ V, Calls Tryz.prog 121 #[.string ((bstr t).extract (320 * k) (320 * k + 320))] V fun x w' => x = .returned (.agg (fcl (N k : Int) (P k) (E k) true).toArray) ∧ V.grownBy w' none) := fun V => by
    rw [hx]
    have h1 := h.num k hk
    have h2 := h.en k hk
    exact readFrame_w V (N k) (E k) (by omega) (by omega) (P k) (h.pg k hk)
  obtain ⟨Z, hZs, hZ⟩ := new167 (w.alloc (.cells #[.pointer (some ⟨b, 0, none⟩), .string (bstr t), .int .i64 (K : Int)] 93))
  have hb0 : Blk (w.alloc (.cells #[.pointer (some ⟨b, 0, none⟩), .string (bstr t), .int .i64 (K : Int)] 93)) w.heap.size #[.pointer (some ⟨b, 0, none⟩), .string (bstr t), .int .i64 (K : Int)] 93 := alloc_new _ _
  have hb1 : Blk ((w.alloc (.cells #[.pointer (some ⟨b, 0, none⟩), .string (bstr t), .int .i64 (K : Int)] 93)).alloc (.cells Tryz.zeroCells167 167)) w.heap.size #[.pointer (some ⟨b, 0, none⟩), .string (bstr t), .int .i64 (K : Int)] 93 := (Below.heap_alloc _ _ _ hb0.lt).trans hb0
  have c1 := (hb1.cell 1).trans (show _ = some (Value.string (bstr t)) from rfl)
  have HG : Hid (w.grownBy ((w.alloc (.cells #[.pointer (some ⟨b, 0, none⟩), .string (bstr t), .int .i64 (K : Int)] 93)).alloc (.cells Tryz.zeroCells167 167)) none) := grown_trans' (World.grownBy_alloc _ _ _) (World.grownBy_alloc _ _ _)
  rw [show (w.alloc (.cells #[.pointer (some ⟨b, 0, none⟩), .string (bstr t), .int .i64 (K : Int)] 93)).heap.size = w.heap.size + 1 by simp] at hZ
  have HZ := hideJ hZ
  have hp := h.pg k hk
  have HI := hideJ (size167 (n := (N k : Int)) (p := P k) (e := E k) (pl := true) hp)
  have HA := hideJ (fcl_all (N k : Int) (P k) (E k) true)
  have HS : Hid ((fcl (N k : Int) (P k) (E k) true).toArray.size = Z.size) := by show _ = _; rw [List.size_toArray, fcl_length _ _ _ hp, hZs]
  generalize hC : (fcl (N k : Int) (P k) (E k) true).toArray = C at HF HI HA HS ⊢
  generalize ((k + 1 : Nat) : Int) = kk at e0 ⊢
  have hk0 : (k : Int) < (K : Int) := by omega
  clear hC hx hb0 hb1 hZ hZs hp h hs
  have l4 : (0 : Int) ≤ 320 * (k : Int) + 320 := by omega
  rw [show lgV b t K = .agg #[.pointer (some ⟨b, 0, none⟩), .string (bstr t), .int .i64 (K : Int)] from rfl]
  generalize bstr t = T at *
  go_enter Tryz.func86, Tryz.ntmps86
  go_wp2_with (first
    | (go_at_call 121; (with_reducible refine Calls.mono (HF.out _) ?_); rintro x w3 ⟨rfl, hg⟩; have HG3 := hideJ (grown_trans' HG.out hg); have HZ3 := hideJ (Blk.grown HZ.out hg); clear hg)
    | ((with_reducible refine at167S ?_); refine wp_storeB (c := C) HI.out HS.out HA.out HZ3.out _ _ (by rfl) (by rfl) (by rfl) (by rfl) ?_; intro W8 hb8 ho8; have HB8 := hideJ hb8; have HG8 := hideJ (grown_only HG3.out ho8 (by omega)); clear hb8 ho8))
  refine ret_blk HI.out u167 (by rfl) (by rfl) HB8.out ?_
  exact ⟨rfl, HG8.out⟩

theorem frames_w (w : World) (b : Nat) (t : List UInt8) (K m : Nat) :
    Calls Tryz.prog 83 #[lgV b t K, .int .i64 (m : Int)] w fun x w' => x = .returned (.func (.func 119) #[] #[.pointer (some ⟨w.heap.size + 1, 0, none⟩), .pointer (some ⟨w.heap.size, 0, none⟩)]) ∧ w' = (w.alloc (.cells #[.pointer (some ⟨b, 0, none⟩), .string (bstr t), .int .i64 (K : Int)] 93)).alloc (.cells #[.int .i64 (m : Int)] 3) := by
  go_enter Tryz.func83, Tryz.ntmps83
  go_wp2
  go_ret
  exact ⟨rfl, rfl⟩
end Go.Proofs.YteocmhbllckpjaaGreat

namespace Go.Proofs.YteocmhbllckpjaaGreat
open Go.ChangeShapes Go.WideShapes Go.ChangeAt Go.RowKit Go.Shelf
set_option linter.unusedVariables false
attribute [local go_sem] Oper.semAt_some

/-- What is yielded. -/
def encF (N E : Nat → Nat) (P : Nat → List UInt8) (k : Nat) : Array Value := #[.int .i64 ((k : Int) + 1), .agg (fcl (N k : Int) (P k) (E k) true).toArray]
theorem Blk.below {w w' : World} {n b : Nat} {c : Array Value} {t : TypeId} (h : Blk w b c t) (hb : Below n w w') (hn : b < n) : Blk w' b c t := (hb.block b hn).trans h

set_option maxRecDepth 100000 in
set_option maxHeartbeats 4000000 in
theorem frames1_in (b : Nat) (t : List UInt8) (K : Nat) (hK : K ≤ 10000) (N E : Nat → Nat) (P : Nat → List UInt8) (h : Frs t K N E P) (m : Nat) (hm : m ≤ K)
    (n lp bm bl : Nat) (Kp : World → World → Prop) (hKp : ∀ A B, Kp A B → B.heap[bm]? = A.heap[bm]? ∧ B.heap[bl]? = A.heap[bl]?) (J Jx : List Nat → World → Prop)
    (hY : ∀ pre x W, J pre W → pre.length < m → YieldAt Fence.wide (n - 1) Tryz.prog lp (encF N E P x) W fun e W' =>
      (e = .returned (.bool true) ∧ J (pre ++ [x]) W' ∧ Kp W W') ∨ (e = .returned (.bool false) ∧ Jx (pre ++ [x]) W'))
    (W : World) (hJ : AbidesFrom W.heap.size J) (hbm : Blk W bm #[.int .i64 (m : Int)] 3) (hbl : Blk W bl #[.pointer (some ⟨b, 0, none⟩), .string (bstr t), .int .i64 (K : Int)] 93) (h0 : J [] W) :
    CallsIn Fence.wide n Tryz.prog 119 #[.func (.yield lp) #[] #[], .pointer (some ⟨bm, 0, none⟩), .pointer (some ⟨bl, 0, none⟩)] W fun e W' => (∃ v, e = .returned v) ∧
      ((∃ ys, ys = List.range m ∧ J ys W') ∨ (∃ pre, (∃ k, k ≤ m ∧ pre = List.range k) ∧ Jx pre W')) := by
  have HF : Hid (∀ k V, k < m → Calls Tryz.prog 86 #[.agg #[.pointer (some ⟨b, 0, none⟩), .string (bstr t), .int .i64 (K : Int)], .int .i64 ((k : Int) + 1)] V fun x w' => x = .returned (.agg (fcl (N k : Int) (P k) (E k) true).toArray) ∧ V.grownBy w' none) := fun k V hk => by
    have := frame_w V b t K hK N E P h k (by omega)
    rwa [show ((k + 1 : Nat) : Int) = (k : Int) + 1 by omega] at this
  have HM : Hid (m ≤ 10000) := by show m ≤ 10000; omega
  have HY := hideJ hY
  have HJ := hideJ hJ
  clear hY h hJ
  refine callsIn_of_wp Tryz.func119 rfl trivial ?_ rfl
  simp only [Tryz.ntmps119, List.size_toArray, List.length_cons, List.length_nil, Nat.reduceAdd, Nat.reduceSub, Array.replicate_succ, Array.replicate_zero, List.push_toArray, List.append_toArray, List.nil_append, List.cons_append]
  gi_wp2
  gi_loopw [4] (fun iv wr => ∃ k : Nat, k ≤ m ∧ iv = .int .i64 ((k : Int) + 1) ∧ J (List.range k) wr ∧ Blk wr bm #[.int .i64 (m : Int)] 3 ∧ Blk wr bl #[.pointer (some ⟨b, 0, none⟩), .string (bstr t), .int .i64 (K : Int)] 93) (fun iv _ => m + 1 - (intOf iv).toNat)
  case atStart => exact ⟨0, Nat.zero_le _, rfl, h0, hbm, hbl⟩
  case round =>
    obtain ⟨k, hk, rfl, hJs, h1, h2⟩ := hrel
    have cm := (h1.cell 0).trans (show _ = some (Value.int .i64 (m : Int)) from rfl)
    by_cases hlt : k < m
    · have cl0 := (h2.cell 0).trans (show _ = some (Value.pointer (some ⟨b, 0, none⟩)) from rfl)
      have cl1 := (h2.cell 1).trans (show _ = some (Value.string (bstr t)) from rfl)
      have cl2 := (h2.cell 2).trans (show _ = some (Value.int .i64 (K : Int)) from rfl)
      have HB1 := hideJ h1
      have HB2 := hideJ h2
      have HJs := hideJ hJs
      have hle : (k : Int) + 1 ≤ (m : Int) := by omega
      have w3 : IntKind.i64.wrap ((k : Int) + 1 + 1) = (k : Int) + 1 + 1 := by have := HM.out; rw [IntKind.wrap_i64]; omega
      have HFk := hideJ (fun V => HF.out k V hlt)
      clear h1 h2 hJs
      gi_wp2_with (refine ⟨trivial, (fun h => absurd h (by decide)), ?_⟩; gi_at_call 86; refine CallsIn.mono (callsIn_wide.2 (HFk.out _)) ?_; rintro e w2 ⟨rfl, hg⟩; have HJ2 := hideJ (HJ.out _ _ _ _ HJs.out hg (fun r e => by cases e)); have HG2 := hideJ hg; obtain ⟨fn, tmps, assign, body, hy, hR⟩ := HY.out _ k w2 HJ2.out (by rw [List.length_range]; exact hlt); simp only [encF] at hy; have HR := hideJ hR; clear hR hg)
      refine ⟨(fun h => absurd h (by decide)), HR.out.mono ?_⟩
      rintro e W3 (⟨rfl, hJ3, hk3⟩ | ⟨rfl, hJx3⟩)
      · have h31 : Blk W3 bm #[.int .i64 (m : Int)] 3 := (hKp _ _ hk3).1.trans (HB1.out.grown HG2.out)
        have h32 : Blk W3 bl #[.pointer (some ⟨b, 0, none⟩), .string (bstr t), .int .i64 (K : Int)] 93 := (hKp _ _ hk3).2.trans (HB2.out.grown HG2.out)
        clear cm cl0 cl1 cl2 hy
        gi_wp2
        go_roundw
        case rel => exact ⟨k + 1, by omega, by simp, by rw [List.range_succ]; exact hJ3, h31, h32⟩
        case measure => simp [intOf]; omega
      · clear cm cl0 cl1 cl2 hy
        gi_wp2
        refine bodyPost_ret (results_none rfl _ _ _) rfl ?_
        exact ⟨⟨_, rfl⟩, .inr ⟨_, ⟨k + 1, by omega, (List.range_succ).symm⟩, hJx3⟩⟩
    · obtain rfl : k = m := by omega
      have hle : ¬ (k : Int) + 1 ≤ (k : Int) := by omega
      gi_wp2
      go_end0
      exact ⟨⟨_, rfl⟩, .inl hJs⟩

theorem frames_stops (b : Nat) (t : List UInt8) (K : Nat) (hK : K ≤ 10000) (N E : Nat → Nat) (P : Nat → List UInt8) (h : Frs t K N E P) (m : Nat) (hm : m ≤ K)
    (n bm bl : Nat) (Kp : World → World → Prop) (hKp : ∀ A B, Kp A B → B.heap[bm]? = A.heap[bm]? ∧ B.heap[bl]? = A.heap[bl]?) (w : World) (hw1 : bm < w.heap.size) (hw2 : bl < w.heap.size) (hbm : Blk w bm #[.int .i64 (m : Int)] 3) (hbl : Blk w bl #[.pointer (some ⟨b, 0, none⟩), .string (bstr t), .int .i64 (K : Int)] 93) :
    SeqStopsK Fence.wide n Tryz.prog 119 #[.pointer (some ⟨bm, 0, none⟩), .pointer (some ⟨bl, 0, none⟩)] (encF N E P) Kp (fun ys => ys = List.range m) (fun pre => ∃ k, k ≤ m ∧ pre = List.range k) m w := fun lp J Jx W hW hJ _ hY h0 =>
  frames1_in b t K hK N E P h m hm n lp bm bl Kp hKp J Jx hY W hJ (hbm.below hW hw1) (hbl.below hW hw2) h0
end Go.Proofs.YteocmhbllckpjaaGreat
