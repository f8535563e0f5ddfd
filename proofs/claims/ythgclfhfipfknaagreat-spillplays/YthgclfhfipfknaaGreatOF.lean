/- The cells of a page as a list. -/
/- Plain: the page of a kind, a link and cells tells just these. -/
import Derived.Maps.AppendAt
import Derived.RangeFuncWrites
import Derived.Test.YthgclfhfipfknaaGreatOA
namespace Go.Proofs.YthgclfhfipfknaaGreat
open Go.ChangeShapes Go.WideShapes Go.ChangeAt Go.RowKit Go.Shelf
set_option linter.unusedVariables false
attribute [local go_sem] Oper.semAt_some

set_option maxRecDepth 100000 in
set_option maxHeartbeats 2000000 in
theorem cells1_inK (l : List UInt8) (hl : l.length = 256) (c : Nat) (hcv : cntV l = c) (hc : c ≤ 250) (S : Nat → ByteArray) (hS : ∀ k, k < c → 6 + c + sm l (k + 1) ≤ 256 ∧ subS l (6 + c + sm l k) (byt l (6 + k)) = S k)
    (n lp Bp : Nat) (Kp : World → World → Prop) (hKp : ∀ A B, Kp A B → B.heap[Bp]? = A.heap[Bp]?) (J Jx : List Nat → World → Prop)
    (hY : ∀ pre x W, J pre W → pre.length < c → YieldAt Fence.wide (n - 1) Tryz.prog lp (encC S x) W fun e W' =>
      (e = .returned (.bool true) ∧ J (pre ++ [x]) W' ∧ Kp W W') ∨ (e = .returned (.bool false) ∧ Jx (pre ++ [x]) W'))
    (W : World) (hJ : AbidesFrom W.heap.size J) (hP : PAt W Bp l) (h0 : J [] W) :
    CallsIn Fence.wide n Tryz.prog 188 #[.func (.yield lp) #[] #[], .pointer (some ⟨Bp, 0, none⟩)] W fun e W' => (∃ v, e = .returned v) ∧
      ((∃ ys, ys = List.range c ∧ J ys W') ∨ (∃ pre, (∃ k, k ≤ c ∧ pre = List.range k) ∧ Jx pre W')) := by
  have HP := hide hP
  have HL := hide hl
  have HC : Hid (∀ V, Calls Tryz.prog 104 #[.agg (bc l)] V fun e w' => e = .returned (.int .i64 (c : Int)) ∧ Below V.heap.size V w') := fun V => by rw [← hcv]; exact count_walk l hl V
  have e1 : IntKind.i64.wrap (6 + (c : Int)) = 6 + (c : Int) := by rw [IntKind.wrap_i64]; omega
  have hs : ∀ V : World, (Instr.sliceAt 59 (.pointer (some ⟨Bp, 0, none⟩)) (some (.int .i64 6)) (some (.int .i64 (6 + (c : Int)))) none).run Tryz.prog V = .ok (.slice (some ⟨Bp, 6, none⟩) c (256 - 6)) V := fun V => cut_page V Bp (x := 6) (y := 6 + (c : Int)) 6 c rfl rfl (by omega) (by omega)
  refine callsIn_of_wp Tryz.func188 rfl trivial ?_ rfl
  simp only [Tryz.ntmps188, List.size_toArray, List.length_cons, List.length_nil, Nat.reduceAdd, Nat.reduceSub, Array.replicate_succ, Array.replicate_zero, List.push_toArray, List.append_toArray, List.nil_append, List.cons_append]
  gi_wp2_with (first
    | (refine wpIn_loadP HL.out HP.out _ (by rfl) (by rfl) (by rfl) ?_)
    | (refine ⟨trivial, (fun h => absurd h (by decide)), ?_⟩; gi_at_call 104; refine CallsIn.mono (callsIn_wide.2 (HC.out _)) ?_; rintro e w2 ⟨rfl, hb2⟩; have HJ2 := hide (hJ _ _ _ _ h0 (grown_below hb2) (fun r e => by cases e)); have HP2 := hide (HP.out.later hb2); clear hb2))
  gi_loopw [16, 4] (fun iv av wr => ∃ k : Nat, k ≤ c ∧ iv = .int .i64 (k : Int) ∧ av = .int .i64 ((6 + c + sm l k : Nat) : Int) ∧ J (List.range k) wr ∧ PAt wr Bp l) (fun iv _ _ => c - (intOf iv).toNat)
  case atStart => exact ⟨0, Nat.zero_le _, rfl, rfl, HJ2.out, HP2.out⟩
  case round =>
    obtain ⟨k, hk, rfl, rfl, hJs, hPr⟩ := hrel
    by_cases hlt : k < c
    · obtain ⟨hle, hSk⟩ := hS k hlt
      obtain ⟨fn, tmps, assign, body, hy, hR⟩ := hY _ k wr hJs (by rw [List.length_range]; exact hlt)
      simp only [encC] at hy
      have HR := hide hR
      have HPr := hide hPr
      have hlt' : (k : Int) < (c : Int) := by omega
      have hk0 : (0 : Int) ≤ (k : Int) := by omega
      have ck := hPr.cell (k := 6 + k) (by omega)
      have bk := byt_lt l (6 + k)
      simp only [sm] at hle
      have w1 : IntKind.i64.wrap (((6 + c + sm l k : Nat) : Int) + (byt l (6 + k) : Int)) = ((6 + c + sm l k : Nat) : Int) + (byt l (6 + k) : Int) := by rw [IntKind.wrap_i64]; omega
      have w2 : IntKind.i64.wrap (byt l (6 + k) : Int) = (byt l (6 + k) : Int) := by rw [IntKind.wrap_i64]; omega
      have w3 : IntKind.i64.wrap ((k : Int) + 1) = (k : Int) + 1 := by rw [IntKind.wrap_i64]; omega
      obtain ⟨x1, hs1, hx1⟩ := cut_page' Bp (x := 6 + (c : Int) + (sm l k : Int)) (y := 6 + (c : Int) + (sm l k : Int) + (byt l (6 + k) : Int)) (6 + c + sm l k) (byt l (6 + k)) (by omega) (by omega) (by omega)
      have hv1 := conv_page HL.out hPr x1 (6 + c + sm l k) (byt l (6 + k)) (256 - (6 + c + sm l k)) (by omega) hx1
      rw [hSk] at hv1
      clear hR hPr hS hY hx1
      gi_wp2
      refine ⟨(fun h => absurd h (by decide)), HR.out.mono ?_⟩
      rintro e W3 (⟨rfl, hJ3, hk3⟩ | ⟨rfl, hJx3⟩)
      · have hP3 : PAt W3 Bp l := by
          show W3.heap[Bp]? = _
          rw [hKp _ _ hk3]; exact HPr.out
        gi_wp2
        go_roundw
        case rel => exact ⟨k + 1, by omega, by simp, by simp only [sm]; exact congrArg (Value.int IntKind.i64) (by omega), by rw [List.range_succ]; exact hJ3, hP3⟩
        case measure => simp [intOf]; omega
      · gi_wp2
        refine bodyPost_ret (results_none rfl _ _ _) rfl ?_
        exact ⟨⟨_, rfl⟩, .inr ⟨_, ⟨k + 1, by omega, (List.range_succ).symm⟩, hJx3⟩⟩
    · obtain rfl : k = c := by omega
      gi_wp2
      go_end0
      exact ⟨⟨_, rfl⟩, .inl ⟨_, rfl, hJs⟩⟩

theorem cells_stopsK (l : List UInt8) (hl : l.length = 256) (c : Nat) (hcv : cntV l = c) (hc : c ≤ 250) (S : Nat → ByteArray) (hS : ∀ k, k < c → 6 + c + sm l (k + 1) ≤ 256 ∧ subS l (6 + c + sm l k) (byt l (6 + k)) = S k)
    (n Bp : Nat) (Kp : World → World → Prop) (hKp : ∀ A B, Kp A B → B.heap[Bp]? = A.heap[Bp]?) (w : World) (hB2 : Bp < w.heap.size) (hP : PAt w Bp l) :
    SeqStopsK Fence.wide n Tryz.prog 188 #[.pointer (some ⟨Bp, 0, none⟩)] (encC S) Kp (fun ys => ys = List.range c) (fun pre => ∃ k, k ≤ c ∧ pre = List.range k) c w := fun lp J Jx W hW hJ _ hY h0 =>
  cells1_inK l hl c hcv hc S hS n lp Bp Kp hKp J Jx hY W hJ (hP.later hW) h0
end Go.Proofs.YthgclfhfipfknaaGreat

namespace Go.Proofs.YthgclfhfipfknaaGreat
open Go.ChangeShapes Go.WideShapes Go.ChangeAt Go.RowKit
set_option linter.unusedVariables false

theorem catlen_get (S : Nat → ByteArray) : ∀ n i, i < n → (cat (fun i => lenS (S i)) n)[i]? = some (UInt8.ofNat (S i).size)
  | 0, i, h => absurd h (by omega)
  | n + 1, i, h => by
    rw [cat]
    by_cases e : i = n
    · subst e
      rw [List.getElem?_append_right (by rw [cat_lenS]; exact Nat.le_refl _), cat_lenS, Nat.sub_self]
      rfl
    · rw [List.getElem?_append_left (by rw [cat_lenS]; omega)]
      exact catlen_get S n i (by omega)
theorem pageL_congr {k L n : Nat} {S T : Nat → ByteArray} (h : ∀ i, i < n → S i = T i) : pageL k L n S = pageL k L n T := by
  rw [pageL_eq, pageL_eq, layH, layH, cat_congr (A := S) (B := T) h, cat_congr (A := fun i => lenS (S i)) (B := fun i => lenS (T i)) (fun i hi => by simp only [h i hi])]
theorem byt_get {q : List UInt8} {j : Nat} {b : UInt8} (h : q[j]? = some b) : byt q j = b.toNat := by simp [byt, h]

theorem page_facts (k L n : Nat) (S : Nat → ByteArray) (hk : k ≤ 5) (hL : L < 4294967296) (hS : ∀ i, i < n → (S i).size ≠ 0 ∧ (S i).size ≤ 60) (hr : n + (cat S n).length ≤ 250) :
    okB (pageL k L n S) ∧ byt (pageL k L n S) 0 = k ∧ byt (pageL k L n S) 1 = n ∧ lnk (pageL k L n S) = L ∧ (∀ i, i < n → cellS (pageL k L n S) i = S i) ∧ (roomV (pageL k L n S) = 250 - (n + (cat S n).length)) := by
  have hlen := pageL_length (k := k) (L := L) hr
  obtain ⟨q, hq⟩ : ∃ q, pageL k L n S = q := ⟨_, rfl⟩
  rw [hq] at hlen ⊢
  rw [pageL_eq, layH, Nat.sub_self, show zeros 0 = [] from rfl, List.nil_append] at hq
  have hH : (hd6 k n L).length = 6 := rfl
  have hA := cat_lenS S n
  have e0 : byt q 0 = k := by
    rw [byt_get (b := UInt8.ofNat k) (by rw [← hq]; rfl), UInt8.toNat_ofNat']; omega
  have e1 : byt q 1 = n := by
    rw [byt_get (b := UInt8.ofNat n) (by rw [← hq]; rfl), UInt8.toNat_ofNat']; omega
  have eL : lnk q = L := by
    unfold lnk
    rw [byt_get (q := q) (j := 2) (b := UInt8.ofNat (L / 16777216)) (by rw [← hq]; rfl), byt_get (q := q) (j := 3) (b := UInt8.ofNat (L / 65536)) (by rw [← hq]; rfl), byt_get (q := q) (j := 4) (b := UInt8.ofNat (L / 256)) (by rw [← hq]; rfl), byt_get (q := q) (j := 5) (b := UInt8.ofNat L) (by rw [← hq]; rfl)]
    simp only [UInt8.toNat_ofNat']
    omega
  have eS : ∀ i, i < n → byt q (6 + i) = (S i).size := fun i hi => by
    rw [byt_get (b := UInt8.ofNat (S i).size) (by
      rw [← hq, List.getElem?_append_right (by rw [hH]; omega), hH, Nat.add_sub_cancel_left, List.getElem?_append_left (by rw [hA]; exact hi)]
      exact catlen_get S n i hi), UInt8.toNat_ofNat']
    have := (hS i hi).2
    omega
  have eM : ∀ i, i ≤ n → sm q i = (cat S i).length := by
    intro i
    induction i with
    | zero => intro _; rfl
    | succ i ih => intro h; rw [sm, ih (by omega), eS i (by omega), cat_len]
  have hend : endN q = 6 + n + (cat S n).length := by rw [endN, e1, eM n (Nat.le_refl _)]
  have eC : ∀ i, i < n → cellS q i = S i := fun i hi => by
    obtain ⟨m, rfl⟩ : ∃ m, n = i + (1 + m) := ⟨n - i - 1, by omega⟩
    have hc := cat_add S i (1 + m)
    rw [cat_add (fun t => S (i + t)) 1 m, show cat (fun t => S (i + t)) 1 = (S i).data.toList by simp [cat]] at hc
    rw [hc] at hq
    have hq2 : ((hd6 k (i + (1 + m)) L ++ cat (fun i => lenS (S i)) (i + (1 + m))) ++ cat S i) ++ ((S i).data.toList ++ (cat (fun t => S (i + (1 + t))) m ++ zeros (250 - (i + (1 + m)) - (cat S i ++ ((S i).data.toList ++ cat (fun t => S (i + (1 + t))) m)).length))) = q := by
      rw [← hq]; simp only [List.append_assoc]
    have hst : stN q i = ((hd6 k (i + (1 + m)) L ++ cat (fun i => lenS (S i)) (i + (1 + m))) ++ cat S i).length := by
      rw [stN, e1, eM i (by omega), List.length_append, List.length_append, hH, hA]
    have hsz : byt q (6 + i) = (S i).data.toList.length := by rw [eS i hi]; exact Array.length_toList.symm
    unfold cellS subS sub
    rw [hst, hsz]
    rw [← hq2, List.drop_left, List.take_left]
  refine ⟨⟨by omega, by omega, fun i hi => ?_, by omega, fun i h1 h2 => ?_⟩, e0, e1, eL, eC, ?_⟩
  · rw [e1] at hi
    rw [eS i hi]
    exact hS i hi
  · have hq3 : (hd6 k n L ++ (cat (fun i => lenS (S i)) n ++ cat S n)) ++ zeros (250 - n - (cat S n).length) = q := by
      rw [← hq]; simp only [List.append_assoc]
    have hl3 : (hd6 k n L ++ (cat (fun i => lenS (S i)) n ++ cat S n)).length = endN q := by
      rw [List.length_append, List.length_append, hH, hA, hend]; omega
    unfold byt
    rw [← hq3, List.getElem?_append_right (by omega), zeros]
    rw [List.getElem?_replicate]
    split <;> rfl
  · have : okB q := ⟨by omega, by omega, fun i hi => by rw [e1] at hi; rw [eS i hi]; exact hS i hi, by omega, fun i h1 h2 => by
      have hq3 : (hd6 k n L ++ (cat (fun i => lenS (S i)) n ++ cat S n)) ++ zeros (250 - n - (cat S n).length) = q := by
        rw [← hq]; simp only [List.append_assoc]
      have hl3 : (hd6 k n L ++ (cat (fun i => lenS (S i)) n ++ cat S n)).length = endN q := by
        rw [List.length_append, List.length_append, hH, hA, hend]; omega
      unfold byt
      rw [← hq3, List.getElem?_append_right (by omega), zeros, List.getElem?_replicate]
      split <;> rfl⟩
    rw [show roomV q = 256 - endN q from if_pos this, hend]
    omega
theorem ok_sizes {l : List UInt8} (hl : l.length = 256) (ho : okB l) : ∀ i, i < byt l 1 → (cellS l i).size ≠ 0 ∧ (cellS l i).size ≤ 60 := by
  obtain ⟨o1, o2, o3, o4, o5⟩ := ho
  intro i hi
  have hn : 6 + byt l 1 + sm l (byt l 1) = endN l := rfl
  have h1 := sm_mono l (show i + 1 ≤ byt l 1 by omega)
  rw [cellS_size hl (by unfold stN; omega)]
  exact o3 i hi
theorem cErr_of {n : Nat} {S : Nat → ByteArray} (h : ∀ i, i < n → (S i).size ≠ 0 ∧ (S i).size ≤ 60) : cErr n S = 0 := by
  rw [cErr_long (fun i hi => (h i hi).1), lErr, if_neg]
  rw [longB_iff]
  rintro ⟨i, hi, h2⟩
  have := (h i hi).2
  omega
end Go.Proofs.YthgclfhfipfknaaGreat
