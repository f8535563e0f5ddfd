/- Plain: a page that may be is fixed by its kind, link and cells. -/
/- The cells of a page, gone over. -/
import Derived.Test.YthgclfhfipfknaaGreatGN
import Derived.RangeFuncNested
import Derived.RangeFuncBound
import Derived.RangeFuncCalls
import Derived.RangeFuncLeaves
import Derived.Shelf.Abstract
import Derived.Shelf.RegionOpen
import Derived.OwnWalkIn
import Derived.TacticsInMore
import Derived.LoopNIn
import Derived.LoopIn
namespace Go.Proofs.YthgclfhfipfknaaGreat
open Go.ChangeShapes Go.WideShapes Go.ChangeAt Go.RowKit
set_option linter.unusedVariables false

/-- A page's cell. -/
def cellS (l : List UInt8) (i : Nat) : ByteArray := subS l (stN l i) (byt l (6 + i))
theorem stN_succ (l : List UInt8) (i : Nat) : stN l (i + 1) = stN l i + byt l (6 + i) := by simp only [stN, sm]; omega
theorem cellS_eq (l : List UInt8) (i : Nat) : subS l (stN l i) (stN l (i + 1) - stN l i) = cellS l i := by
  rw [cellS, stN_succ, Nat.add_sub_cancel_left]
theorem subS_toL (l : List UInt8) (a n : Nat) : (subS l a n).data.toList = sub l a n := by simp [subS]
theorem subS_size {l : List UInt8} {a n : Nat} (h : a + n ≤ l.length) : (subS l a n).size = n := by
  have := sub_length h
  simp only [subS, ByteArray.size, List.size_toArray]
  exact this
theorem sub_add {l : List UInt8} {a n m : Nat} : sub l a (n + m) = sub l a n ++ sub l (a + n) m := by
  unfold sub
  rw [List.take_add, List.drop_drop]
theorem sub_zero (l : List UInt8) (a : Nat) : sub l a 0 = [] := by simp [sub]
theorem sub_one {l : List UInt8} {a : Nat} (h : a < l.length) : sub l a 1 = [UInt8.ofNat (byt l a)] := by
  unfold sub byt
  rw [List.drop_eq_getElem_cons h, List.getElem?_eq_getElem h, List.take_succ_cons, List.take_zero]
  simp
theorem cat_congr {A B : Nat → ByteArray} {n : Nat} (h : ∀ i, i < n → A i = B i) : cat A n = cat B n := by
  induction n with
  | zero => rfl
  | succ n ih => rw [cat, cat, ih (fun i hi => h i (by omega)), h n (by omega)]
theorem cat_add (A : Nat → ByteArray) (a b : Nat) : cat A (a + b) = cat A a ++ cat (fun t => A (a + t)) b := by
  induction b with
  | zero => simp [cat]
  | succ b ih => rw [← Nat.add_assoc, cat, ih, cat, List.append_assoc]
theorem lenS_toL {s : ByteArray} : (lenS s).data.toList = [UInt8.ofNat s.size] := rfl
/-- The bytes of cells in a row, and their lengths. -/
theorem cat_cells {l : List UInt8} (i : Nat) : ∀ m, cat (fun t => cellS l (i + t)) m = sub l (stN l i) (stN l (i + m) - stN l i)
  | 0 => by simp [cat, sub_zero]
  | m + 1 => by
    have h1 := stN_mono l (show i ≤ i + m by omega)
    rw [cat, cat_cells i m, cellS, subS_toL, show i + (m + 1) = i + m + 1 from rfl, stN_succ, show stN l (i + m) + byt l (6 + (i + m)) - stN l i = (stN l (i + m) - stN l i) + byt l (6 + (i + m)) by omega, sub_add, show stN l i + (stN l (i + m) - stN l i) = stN l (i + m) by omega]
theorem cellS_size {l : List UInt8} (hl : l.length = 256) {i : Nat} (h : stN l (i + 1) ≤ 256) : (cellS l i).size = byt l (6 + i) := by
  rw [stN_succ] at h
  exact subS_size (by omega)
theorem cat_lens {l : List UInt8} (hl : l.length = 256) (i : Nat) : ∀ m, 6 + i + m ≤ 256 → stN l (i + m) ≤ 256 → cat (fun t => lenS (cellS l (i + t))) m = sub l (6 + i) m
  | 0, _, _ => by simp [cat, sub_zero]
  | m + 1, h, hs => by
    have h1 := stN_mono l (show i + m ≤ i + (m + 1) by omega)
    rw [cat, cat_lens hl i m (by omega) (by omega), lenS_toL, cellS_size hl (by rw [← Nat.add_assoc] at hs; exact hs), sub_add, sub_one (by omega), show 6 + i + m = 6 + (i + m) by omega]
/-- Runs that are joined are the page of their cells. -/
theorem joined_page (k L n m : Nat) (A B S : Nat → ByteArray) (hA : cat A m = cat (fun i => lenS (S i)) n) (hB : cat B m = cat S n) : setL (lay k (cat A m).length A B (cat A m).length m m) L = pageL k L n S := by
  have hn : (cat A m).length = n := by rw [hA, cat_lenS]
  unfold pageL lay
  rw [hn, hA, hB, cat_lenS]
theorem byt_ofNat (l : List UInt8) (k : Nat) : (UInt8.ofNat (byt l k)) = l[k]?.getD 0 := by
  unfold byt
  simp
theorem take6 {l : List UInt8} (hl : l.length = 256) : l.take 6 = hd6 (byt l 0) (byt l 1) (lnk l) := by
  obtain ⟨a, b, c, d, e, f, r, rfl⟩ : ∃ a b c d e f r, l = a :: b :: c :: d :: e :: f :: r := by
    match l, hl with
    | a :: b :: c :: d :: e :: f :: r, _ => exact ⟨a, b, c, d, e, f, r, rfl⟩
  have hc := c.toNat_lt
  have hd := d.toNat_lt
  have he := e.toNat_lt
  have hf := f.toNat_lt
  have e0 : byt (a :: b :: c :: d :: e :: f :: r) 0 = a.toNat := rfl
  have e1 : byt (a :: b :: c :: d :: e :: f :: r) 1 = b.toNat := rfl
  have e2 : byt (a :: b :: c :: d :: e :: f :: r) 2 = c.toNat := rfl
  have e3 : byt (a :: b :: c :: d :: e :: f :: r) 3 = d.toNat := rfl
  have e4 : byt (a :: b :: c :: d :: e :: f :: r) 4 = e.toNat := rfl
  have e5 : byt (a :: b :: c :: d :: e :: f :: r) 5 = f.toNat := rfl
  have key : ∀ (x : UInt8) (N : Nat), N % 256 = x.toNat → UInt8.ofNat N = x := fun x N h => by
    apply UInt8.toNat_inj.1
    rw [UInt8.toNat_ofNat', ← h]
  simp only [List.take_succ_cons, List.take_zero, hd6, lnk, e0, e1, e2, e3, e4, e5]
  rw [key a _ (by have := a.toNat_lt; omega), key b _ (by have := b.toNat_lt; omega), key c _ (by omega), key d _ (by omega), key e _ (by omega), key f _ (by omega)]
theorem zeros_of {l : List UInt8} (h : ∀ i, i < l.length → byt l i = 0) : l = zeros l.length := by
  apply List.ext_getElem
  · rw [zeros_length]
  · intro i h1 h2
    have := h i h1
    unfold byt at this
    rw [List.getElem?_eq_getElem h1] at this
    simp only [Option.getD_some] at this
    rw [show (zeros l.length)[i] = 0 by simp [zeros]]
    exact UInt8.toNat_inj.1 this
theorem cat_cells0 (l : List UInt8) (m : Nat) : cat (cellS l) m = sub l (6 + byt l 1) (sm l m) := by
  have := cat_cells (l := l) 0 m
  simp only [Nat.zero_add] at this
  rw [this]
  congr 1
  simp only [stN, sm]; omega
theorem cat_lens0 {l : List UInt8} (hl : l.length = 256) (m : Nat) (h : 6 + m ≤ 256) (hs : stN l m ≤ 256) : cat (fun t => lenS (cellS l t)) m = sub l 6 m := by
  have := cat_lens hl 0 m (by omega) (by rw [Nat.zero_add]; exact hs)
  simpa only [Nat.zero_add, Nat.add_zero] using this
/-- A page that may be is the page of its kind, link and cells. -/
theorem page_is {l : List UInt8} (hl : l.length = 256) (ho : okB l) : pageL (byt l 0) (lnk l) (byt l 1) (cellS l) = l := by
  obtain ⟨o1, o2, o3, o4, o5⟩ := ho
  have hst : stN l (byt l 1) = endN l := rfl
  rw [pageL_eq, layH, cat_lens0 hl _ o2 (by rw [hst]; exact o4), cat_cells0, Nat.sub_self]
  have e0 : zeros 0 = [] := rfl
  have hn : 6 + byt l 1 + sm l (byt l 1) = endN l := rfl
  have e1 : (sub l (6 + byt l 1) (sm l (byt l 1))).length = sm l (byt l 1) := sub_length (by omega)
  have hz : l.drop (endN l) = zeros (256 - endN l) := by
    have := zeros_of (l := l.drop (endN l)) (fun i hi => by
      rw [List.length_drop] at hi
      have := o5 (endN l + i) (by omega) (by omega)
      unfold byt at this ⊢
      rw [List.getElem?_drop]
      exact this)
    rw [List.length_drop, hl] at this
    exact this
  rw [e0, List.nil_append, e1, ← take6 hl, show 250 - byt l 1 - sm l (byt l 1) = 256 - endN l by omega, ← hz]
  have s1 : l.take 6 ++ (sub l 6 (byt l 1) ++ (sub l (6 + byt l 1) (sm l (byt l 1)) ++ l.drop (endN l))) = l.take (6 + byt l 1 + sm l (byt l 1)) ++ l.drop (endN l) := by
    rw [List.take_add, List.take_add]
    simp only [sub, List.append_assoc]
  rw [s1, hn, List.take_append_drop]
theorem ok_room {l : List UInt8} (hl : l.length = 256) (ho : okB l) : byt l 1 + (cat (cellS l) (byt l 1)).length ≤ 250 := by
  obtain ⟨o1, o2, o3, o4, o5⟩ := ho
  have hn : 6 + byt l 1 + sm l (byt l 1) = endN l := rfl
  rw [cat_cells0, sub_length (by omega)]
  omega
end Go.Proofs.YthgclfhfipfknaaGreat

namespace Go.Proofs.YthgclfhfipfknaaGreat
open Go.ChangeShapes Go.WideShapes Go.ChangeAt Go.RowKit Go.Shelf
set_option linter.unusedVariables false
attribute [local go_sem] Oper.semAt_some

theorem wpIn_loadP {F : Fence} {n : Nat} {ops : Array Oper} {rest : List Oper} {o : Oper} {a : Act} {Q : Exit → Act → World → Prop} {w : World} {g : Nat} {l : List UInt8} (hl : l.length = 256) (hg : PAt w g l) (x : Operand)
    (hgd : o.guard = none) (ho : o.op = .load 59 x) (hx : a.eval x = .pointer (some ⟨g, 0, none⟩)) (h : wpListIn F n Tryz.prog ops Q rest (a.put o.dst (.agg (bc l))) w) : wpListIn F n Tryz.prog ops Q (o :: rest) a w := by
  refine wpListIn_plain hgd fun K hK' => ?_
  unfold Oper.wpIn
  refine ⟨by simp [Oper.about, ho], ?_⟩
  rw [Oper.semAt_plain F _ _ (by rw [ho]; intro c hc'; cases hc')]
  unfold execOp
  simp only [ho, hx, Instr.loadAt, Instr.sureAddr, Sem.run_bind, Sem.run_pure, Result.andThen_ok, run_loadVar_row w g 59 59 (bc l) (0, 0) _ hg page_arr rfl (page_size hl)]
  exact hK' _ _ h
theorem grown_below {A B : World} (h : Below A.heap.size A B) : A.grownBy B none := ⟨h.os, h.tape, h.output, h.size, fun k hk _ => h.block k hk⟩

/-- What is yielded. -/
def encC (S : Nat → ByteArray) (k : Nat) : Array Value := #[.int .i64 (k : Int), .string (S k)]

set_option maxRecDepth 100000 in
set_option maxHeartbeats 2000000 in
theorem cells1_in (l : List UInt8) (hl : l.length = 256) (c : Nat) (hcv : cntV l = c) (hc : c ≤ 250) (S : Nat → ByteArray) (hS : ∀ k, k < c → 6 + c + sm l (k + 1) ≤ 256 ∧ subS l (6 + c + sm l k) (byt l (6 + k)) = S k)
    (n lp Bp n₀ : Nat) (hB : Bp < n₀) (J Jx : List Nat → World → Prop)
    (hY : ∀ pre x W, J pre W → pre.length < c → YieldAt Fence.wide (n - 1) Tryz.prog lp (encC S x) W fun e W' =>
      (e = .returned (.bool true) ∧ J (pre ++ [x]) W' ∧ Below n₀ W W') ∨ (e = .returned (.bool false) ∧ Jx (pre ++ [x]) W'))
    (W : World) (hJ : AbidesFrom W.heap.size J) (hP : PAt W Bp l) (h0 : J [] W) :
    CallsIn Fence.wide n Tryz.prog 188 #[.func (.yield lp) #[] #[], .pointer (some ⟨Bp, 0, none⟩)] W fun e W' => (∃ v, e = .returned v) ∧
      ((∃ ys, ys = List.range c ∧ J ys W') ∨ (∃ pre, (∃ k, k ≤ c ∧ pre = List.range k) ∧ Jx pre W')) := by
  have HP := hide hP
  have HL := hide hl
  have HC : Hid (∀ V, Calls Tryz.prog 104 #[.agg (bc l)] V fun e w' => e = .returned (.int .i64 (c : Int)) ∧ Below V.heap.size V w') := fun V => by rw [← hcv]; exact count_walk l hl V
  have e1 : IntKind.i64.wrap (6 + (c : Int)) = 6 + (c : Int) := by rw [IntKind.wrap_i64]; omega
  have hs : ∀ V : World, (Instr.sliceAt 59 (.pointer (some ⟨Bp, 0, none⟩)) (some (.int .i64 6)) (some (.int .i64 (6 + (c : Int)))) none).run Tryz.prog V = .ok (.slice (some ⟨Bp, 6, none⟩) c (256 - 6)) V := fun V => cut_page V Bp (x := 6) (y := 6 + (c : Int)) 6 c rfl rfl (by omega) (by omega)
  refine callsIn_of_wp Tryz.func188 rfl trivial ?_ rfl
  simp only [Tryz.ntmps188, List.size_toArray, List.length_cons, List.length_nil, Nat.reduceAdd, Nat.reduceSub, Array.replicate_succ, Array.replicate_zero, List.push_toArray, List.append_toArray, List.nil_append, List.cons_append]
  gi_wp2_with (first
    | (refine wpIn_loadP HL.out HP.out _ (by rfl) (by rfl) (by rfl) ?_)
    | (refine ⟨trivial, (fun h => absurd h (by decide)), ?_⟩; gi_at_call 104; refine CallsIn.mono (callsIn_wide.2 (HC.out _)) ?_; rintro e w2 ⟨rfl, hb2⟩; have HJ2 := hide (hJ _ _ _ _ h0 (grown_below hb2) (fun r e => by cases e)); have HP2 := hide (HP.out.later hb2); clear hb2))
  gi_loopw [16, 4] (fun iv av wr => ∃ k : Nat, k ≤ c ∧ iv = .int .i64 (k : Int) ∧ av = .int .i64 ((6 + c + sm l k : Nat) : Int) ∧ J (List.range k) wr ∧ PAt wr Bp l) (fun iv _ _ => c - (intOf iv).toNat)
  case atStart => exact ⟨0, Nat.zero_le _, rfl, rfl, HJ2.out, HP2.out⟩
  case round =>
    obtain ⟨k, hk, rfl, rfl, hJs, hPr⟩ := hrel
    by_cases hlt : k < c
    · obtain ⟨hle, hSk⟩ := hS k hlt
      obtain ⟨fn, tmps, assign, body, hy, hR⟩ := hY _ k wr hJs (by rw [List.length_range]; exact hlt)
      simp only [encC] at hy
      have HR := hide hR
      have HPr := hide hPr
      have hlt' : (k : Int) < (c : Int) := by omega
      have hk0 : (0 : Int) ≤ (k : Int) := by omega
      have ck := hPr.cell (k := 6 + k) (by omega)
      have bk := byt_lt l (6 + k)
      simp only [sm] at hle
      have w1 : IntKind.i64.wrap (((6 + c + sm l k : Nat) : Int) + (byt l (6 + k) : Int)) = ((6 + c + sm l k : Nat) : Int) + (byt l (6 + k) : Int) := by rw [IntKind.wrap_i64]; omega
      have w2 : IntKind.i64.wrap (byt l (6 + k) : Int) = (byt l (6 + k) : Int) := by rw [IntKind.wrap_i64]; omega
      have w3 : IntKind.i64.wrap ((k : Int) + 1) = (k : Int) + 1 := by rw [IntKind.wrap_i64]; omega
      obtain ⟨x1, hs1, hx1⟩ := cut_page' Bp (x := 6 + (c : Int) + (sm l k : Int)) (y := 6 + (c : Int) + (sm l k : Int) + (byt l (6 + k) : Int)) (6 + c + sm l k) (byt l (6 + k)) (by omega) (by omega) (by omega)
      have hv1 := conv_page HL.out hPr x1 (6 + c + sm l k) (byt l (6 + k)) (256 - (6 + c + sm l k)) (by omega) hx1
      rw [hSk] at hv1
      clear hR hPr hS hY hx1
      gi_wp2
      refine ⟨(fun h => absurd h (by decide)), HR.out.mono ?_⟩
      rintro e W3 (⟨rfl, hJ3, hk3⟩ | ⟨rfl, hJx3⟩)
      · have hP3 : PAt W3 Bp l := by
          show W3.heap[Bp]? = _
          rw [hk3.block Bp hB]; exact HPr.out
        gi_wp2
        go_roundw
        case rel => exact ⟨k + 1, by omega, by simp, by simp only [sm]; exact congrArg (Value.int IntKind.i64) (by omega), by rw [List.range_succ]; exact hJ3, hP3⟩
        case measure => simp [intOf]; omega
      · gi_wp2
        refine bodyPost_ret (results_none rfl _ _ _) rfl ?_
        exact ⟨⟨_, rfl⟩, .inr ⟨_, ⟨k + 1, by omega, (List.range_succ).symm⟩, hJx3⟩⟩
    · obtain rfl : k = c := by omega
      gi_wp2
      go_end0
      exact ⟨⟨_, rfl⟩, .inl ⟨_, rfl, hJs⟩⟩

theorem cells_stops (l : List UInt8) (hl : l.length = 256) (c : Nat) (hcv : cntV l = c) (hc : c ≤ 250) (S : Nat → ByteArray) (hS : ∀ k, k < c → 6 + c + sm l (k + 1) ≤ 256 ∧ subS l (6 + c + sm l k) (byt l (6 + k)) = S k)
    (n Bp n₀ : Nat) (hB : Bp < n₀) (w : World) (hB2 : Bp < w.heap.size) (hP : PAt w Bp l) :
    SeqStopsK Fence.wide n Tryz.prog 188 #[.pointer (some ⟨Bp, 0, none⟩)] (encC S) (Below n₀) (fun ys => ys = List.range c) (fun pre => ∃ k, k ≤ c ∧ pre = List.range k) c w := fun lp J Jx W hW hJ _ hY h0 =>
  cells1_in l hl c hcv hc S hS n lp Bp n₀ hB J Jx hY W hJ (hP.later hW) h0

/-- The cells that a page tells, whatever it is. -/
theorem cells_facts (l : List UInt8) (hl : l.length = 256) : ∃ c, cntV l = c ∧ c ≤ 250 ∧ (∀ k, k < c → 6 + c + sm l (k + 1) ≤ 256 ∧ subS l (6 + c + sm l k) (byt l (6 + k)) = cellS l k) ∧ ((okB l ∧ c = byt l 1) ∨ (¬ okB l ∧ c = 0)) := by
  by_cases ho : okB l
  · have hcv : cntV l = byt l 1 := if_pos ho
    obtain ⟨o1, o2, o3, o4, o5⟩ := ho
    refine ⟨byt l 1, hcv, by omega, fun k hk => ⟨?_, rfl⟩, .inl ⟨⟨o1, o2, o3, o4, o5⟩, rfl⟩⟩
    have h1 := sm_mono l (show k + 1 ≤ byt l 1 by omega)
    have h2 : endN l = 6 + byt l 1 + sm l (byt l 1) := rfl
    omega
  · exact ⟨0, if_neg ho, by omega, fun k hk => absurd hk (by omega), .inr ⟨ho, rfl⟩⟩

set_option maxRecDepth 20000 in
set_option maxHeartbeats 1000000 in
theorem cells_fn (l : List UInt8) (hl : l.length = 256) (w : World) :
    Calls Tryz.prog 106 #[.agg (bc l)] w fun e w' => e = .returned (.func (.func 188) #[] #[.pointer (some ⟨w.heap.size, 0, none⟩)]) ∧ w' = w.alloc (.cells (bc l) 59) := by
  go_enter Tryz.func106, Tryz.ntmps106
  go_wp2
  go_ret
  exact ⟨rfl, rfl⟩
end Go.Proofs.YthgclfhfipfknaaGreat
