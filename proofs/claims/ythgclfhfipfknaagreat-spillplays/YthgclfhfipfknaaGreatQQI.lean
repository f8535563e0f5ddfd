/- The law's told: a payload is told as it must be. -/
/- The document's PutVarint (of small numbers). -/
/- The document's Four, Pages and Stub. -/
/- SpillPlays: the state between two steps: the transaction's part. -/
/- SpillPlays: the state between two steps: the law's own memory. -/
/- The document's Take: which row is left. -/
/- SpillPlays: pages are taken as the document has it. -/
/- The walk of SpillPlays. -/
import Derived.Test.YthgclfhfipfknaaGreatPPR
import Derived.Test.YthgclfhfipfknaaGreatZP
import Derived.Test.YthgclfhfipfknaaGreatVF
import Derived.Laws.Concat
import Derived.Test.YthgclfhfipfknaaGreatPPB
import Derived.Laws.OwnMore
import Derived.WalkSmall
import Derived.Great.BuildSlice
import Derived.Maps.AppendAt
import Derived.Test.YthgclfhfipfknaaGreatPPS
namespace Go.Proofs.YthgclfhfipfknaaGreat
variable {sv : Value}
open Go.ChangeShapes Go.WideShapes Go.ChangeAt Go.RowKit Go.Maps
set_option linter.unusedVariables false

def kdA (st data : ByteArray) (p : Option Addr) (l c : Nat) : Array Value := #[.string st, .string data, .slice p l c]
set_option maxRecDepth 20000 in
set_option maxHeartbeats 2000000 in
theorem told_e (w : World) (t pm n : Nat) {P : Nat → List UInt8} {K : Nat} (h : Tr sv w t pm n P K true) (st data more : ByteArray) (G : List Nat) (pp : Option Addr) (kp : Nat) (hR : foundR P n (st ++ more) = some (data.data.toList, G)) (hz : rdSz (st ++ more) = st.size) (hs : (st ++ more).size ≤ 140737488355328) (hf : FrP w pp kp G) (hG : G.length ≤ 100) :
    Calls Tryz.prog 16 #[.pointer (some ⟨t, 0, none⟩), .agg (kdA st data pp G.length kp), .string more] w fun e w' => e = .returned (.bool true) ∧ Below w.heap.size w w' := by
  have hb0 := below_alloc w (.cells (kdA st data pp G.length kp) 38)
  have k0 := Blk.new w (kdA st data pp G.length kp) 38
  have c0 : (w.alloc (.cells (kdA st data pp G.length kp) 38)).cell? ⟨w.heap.size, 0, none⟩ = some (.string st) := k0.cell 0
  have hfind := fun V (hb : Below w.heap.size w V) => (have hh := find_any V t pm n (h.later hb) (st ++ more) hs; (show Calls Tryz.prog 37 #[.pointer (some ⟨t, 0, none⟩), .string (st ++ more)] V fun e w' => FdW V st.size e w' (some (data.data.toList, G)) from by rw [hR, hz] at hh; exact hh))
  have HGt := hide (fun V (hb : Below w.heap.size w V) => (show Calls Tryz.prog 19 #[.pointer (some ⟨t, 0, none⟩), .string (st ++ more)] V fun e w' => e = .returned (.tuple #[.string data, .int .i64 (st.size : Int), .int .i64 0]) ∧ Below V.heap.size V w' from pget_any V (some ⟨t, 0, none⟩) (st ++ more) st.size (some (data.data.toList, G)) (hfind V hb)))
  have HPs := hide (fun V (hb : Below w.heap.size w V) => (show Calls Tryz.prog 21 #[.pointer (some ⟨t, 0, none⟩), .string (st ++ more)] V fun e w' => ∃ p c, e = .returned (.tuple #[.slice p G.length c, .int .i64 0]) ∧ w'.ownsRow V.heap.size 3 1 (.slice p G.length c) G.length (inL G) ∧ Below V.heap.size V w' from ppages_any V (some ⟨t, 0, none⟩) (st ++ more) st.size (some (data.data.toList, G)) (hfind V hb)))
  have hcat : ∀ V, (Op.stringOp BinOp.add st more).run Tryz.prog V = .ok (.string (st ++ more)) V := fun V => run_string_add_sum V _ _ (by rw [ByteArray.size_append] at hs; omega)
  have HF := hide hf
  have HG := hide hG
  have HB0 := hide hb0
  have HK0 := hide k0
  clear h hR hz hs hf hG hfind k0 hb0
  unfold kdA at c0 HB0 HK0
  unfold kdA
  generalize st ++ more = sm at *
  go_enter Tryz.func16, Tryz.ntmps16
  go_wp2_with (first
    | (go_at_call 19; (with_reducible refine Calls.mono (HGt.out _ HB0.out) ?_); rintro e w1 ⟨rfl, hb⟩; have hk := HK0.out.later hb; have c10 : w1.cell? ⟨w.heap.size, 0, none⟩ = some (.string st) := hk.cell 0; have HB1 := hide (below_trans HB0.out hb); have HK1 := hide hk; clear hb hk)
    | (go_at_call 21; (with_reducible refine Calls.mono (HPs.out _ HB1.out) ?_); rintro e w2 ⟨p2, c2, rfl, ho, hb⟩; have hk := HK1.out.later hb; have d0 : w2.cell? ⟨w.heap.size, 0, none⟩ = some (.string st) := hk.cell 0; have d1 : w2.cell? ⟨w.heap.size, 1, none⟩ = some (.string data) := hk.cell 1; have d2 : w2.cell? ⟨w.heap.size, 2, none⟩ = some (.slice pp G.length kp) := hk.cell 2; have HB2 := hide (below_trans HB1.out hb); have HO2 := hide ho; have HF2 := hide (HF.out.later HB2.out); clear hb hk ho))
  go_loopw [12] (fun kv wr => ∃ j : Nat, kv = .int .i64 (j : Int) ∧ j ≤ G.length ∧ Below w2.heap.size w2 wr) (fun kv _ => G.length - (intOf kv).toNat)
  case atStart => exact ⟨0, rfl, by omega, below_refl _⟩
  case round =>
    obtain ⟨j, rfl, hj, hb2⟩ := hrel
    by_cases hlt : j < G.length
    · have l1 : (j : Int) < (G.length : Int) := by omega
      have l0 : (0 : Int) ≤ (j : Int) := by omega
      have hw1 : IntKind.i64.wrap ((j : Int) + 1) = ((j + 1 : Nat) : Int) := by have := HG.out; rw [IntKind.wrap_i64]; omega
      obtain ⟨x, hx⟩ : ∃ x, G[j]? = some x := ⟨_, List.getElem?_eq_getElem hlt⟩
      obtain ⟨b, o, rfl, _, hc⟩ := HF2.out.2.2 (by omega)
      have cj := cell_later hb2 (hc j x hx)
      have d2w := cell_later hb2 d2
      rcases HO2.out.2 with ⟨_, e⟩ | ⟨g, cap, cur, hv, _, hgg, _, _, _, htk⟩
      · omega
      · injection hv with e1 e2 e3
        subst e1 e3
        have cg : wr.cell? ⟨g, j, none⟩ = some (.int .i64 (x : Int)) := by
          refine cell_later hb2 ?_
          rw [Lib.cell_of_heap hgg]
          have e : cur[j]? = (cur.toList.take (G.length * 1))[j]? := by rw [List.getElem?_take_of_lt (by omega)]; simp
          rw [e, htk]
          simp [inL, hx]
        have HC := hide (show wr.drew.cell? ⟨g, j, none⟩ = some (.int .i64 (x : Int)) ∧ wr.drew.cell? ⟨b, o + j, none⟩ = some (.int .i64 (x : Int)) ∧ wr.drew.cell? ⟨w.heap.size, 2, none⟩ = some (.slice (some ⟨b, o, none⟩) G.length kp) from ⟨cg, cj, d2w⟩)
        have HB3 := hide (below_trans hb2 (below_drew wr))
        have HLt : Hid (j + 1 ≤ G.length) := hlt
        clear hc hgg htk hx cg cj d2w hb2
        go_wp2_with fail
        go_region_held3 (fun V => V.cell? ⟨g, j, none⟩ = some (.int .i64 (x : Int)) ∧ V.cell? ⟨b, o + j, none⟩ = some (.int .i64 (x : Int)) ∧ V.cell? ⟨w.heap.size, 2, none⟩ = some (.slice (some ⟨b, o, none⟩) G.length kp)) (exact HC.out) (fail)
        all_goals
          go_wp2_with fail
          go_roundw
          case rel => exact ⟨j + 1, by simp, HLt.out, HB3.out⟩
          case measure => simp [intOf]; have := HLt.out; omega
    · have l1 : ¬ (j : Int) < (G.length : Int) := by omega
      go_wp2_with fail
      go_ret
      exact ⟨rfl, below_trans HB2.out hb2⟩
end Go.Proofs.YthgclfhfipfknaaGreat

namespace Go.Proofs.YthgclfhfipfknaaGreat.Rec
open Go.ChangeShapes Go.WideShapes Go.ChangeAt Go.RowKit
set_option linter.unusedVariables false

theorem bl_alloc1 {w w1 : World} (h : Below w.heap.size w w1) (o : Obj) : Below w.heap.size w (w1.alloc o) := h.alloc h.size o
/-- One byte as a text. -/
theorem conv_one (w : World) (x : UInt8) : (convert 88 9 (.slice (some ⟨w.heap.size, 0, none⟩) 1 1)).run Tryz.prog (w.alloc (.cells #[.int .u8 (x.toNat : Int)] 5)) = .ok (.string ⟨#[x]⟩) (w.alloc (.cells #[.int .u8 (x.toNat : Int)] 5)) := by
  refine run_convert_bytes_back (P := Tryz.prog) _ 88 9 5 ⟨w.heap.size, 0, none⟩ 1 [x] Tryz.underlying88 Tryz.underlying5 Tryz.underlying9 ?_
  intro j hj
  have hj0 : j = 0 := by simpa using hj
  subst hj0
  rw [show (⟨w.heap.size, 0, none⟩ : Addr).add 0 = ⟨w.heap.size, 0, none⟩ by unfold Addr.add; split <;> simp_all]
  exact (block_cell (cs := #[.int .u8 (x.toNat : Int)]) (t := 5) (by show (w.heap.push _)[w.heap.size]? = _; simp) 0)

theorem digits_size (u U k : Nat) (hu : u < 72057594037927936) (hU : u / 128 = U) (hk : k ≤ 8) (h0 : U / 128 ^ k = 0) (hp : ∀ j, j < k → 0 < U / 128 ^ j) : vsz u = k + 1 := by
  have hc : k = 0 ∨ k = 1 ∨ k = 2 ∨ k = 3 ∨ k = 4 ∨ k = 5 ∨ k = 6 ∨ k = 7 ∨ k = 8 := by omega
  unfold vsz
  rcases hc with rfl | rfl | rfl | rfl | rfl | rfl | rfl | rfl | rfl
  · simp at h0; (repeat' split) <;> omega
  · have h1 := hp 0 (by omega); simp at h0 h1; (repeat' split) <;> omega
  · have h1 := hp 1 (by omega); simp only [Nat.reducePow] at h0 h1; (repeat' split) <;> omega
  · have h1 := hp 2 (by omega); simp only [Nat.reducePow] at h0 h1; (repeat' split) <;> omega
  · have h1 := hp 3 (by omega); simp only [Nat.reducePow] at h0 h1; (repeat' split) <;> omega
  · have h1 := hp 4 (by omega); simp only [Nat.reducePow] at h0 h1; (repeat' split) <;> omega
  · have h1 := hp 5 (by omega); simp only [Nat.reducePow] at h0 h1; (repeat' split) <;> omega
  · have h1 := hp 6 (by omega); simp only [Nat.reducePow] at h0 h1; (repeat' split) <;> omega
  · have h1 := hp 7 (by omega); simp only [Nat.reducePow] at h0 h1; (repeat' split) <;> omega
theorem add_bytes (x : UInt8) (l : List UInt8) : (⟨#[x]⟩ : ByteArray) ++ (⟨l.toArray⟩ : ByteArray) = ⟨(x :: l).toArray⟩ := by
  apply ByteArray.ext
  simp
theorem cat_run (x : UInt8) (l : List UInt8) (hl : l.length ≤ 100) (V : World) : (Op.stringOp BinOp.add ⟨#[x]⟩ ⟨l.toArray⟩).run Tryz.prog V = .ok (.string ⟨(x :: l).toArray⟩) V := by
  rw [← add_bytes]
  refine run_string_add_sum V _ _ ?_
  show 1 + l.toArray.size ≤ _
  rw [List.size_toArray]
  omega
theorem shr_val (q : Nat) (h : q < 18446744073709551616) : IntKind.u64.wrap ((q : Int) / 128) = ((q / 128 : Nat) : Int) := by
  rw [IntKind.wrap_u64]; omega

set_option maxHeartbeats 1000000 in
set_option maxRecDepth 10000 in
theorem rput_small (u : Nat) (hu : u < 72057594037927936) (w : World) : Calls Tryz.prog 48 #[.int .u64 (u : Int)] w fun e w' => e = .returned (.string ⟨(putL u).toArray⟩) ∧ Below w.heap.size w w' := by
  have h1 : (u : Int) < 72057594037927936 := by omega
  obtain ⟨b0, hb0⟩ : ∃ b0 : UInt8, UInt8.ofNat (u % 128) = b0 := ⟨_, rfl⟩
  have hbv : (u : Int) % 128 = (b0.toNat : Int) := by
    rw [← hb0, UInt8.toNat_ofNat']; omega
  have hbw : (b0.toNat : Int) % 256 = (b0.toNat : Int) := by have := b0.toNat_lt; omega
  have hcv := fun w => conv_one w b0
  go_enter Tryz.func48, Tryz.ntmps48
  go_wp2
  obtain ⟨U, hU⟩ : ∃ U, u / 128 = U := ⟨_, rfl⟩
  rw [show (u : Int) / 128 = ((U / 128 ^ 0 : Nat) : Int) by simp; omega]
  go_name_world W hW
  go_loopw [0, 3] (fun uv sv wr => ∃ k : Nat, k ≤ 8 ∧ (∀ j, j < k → 0 < U / 128 ^ j) ∧ uv = .int .u64 ((U / 128 ^ k : Nat) : Int) ∧ sv = .string ⟨(lows k U ++ [b0]).toArray⟩ ∧ Below w.heap.size w wr) (fun uv _ _ => (intOf uv).toNat)
  case atStart =>
    exact ⟨0, by omega, by omega, rfl, rfl, new_below w _ hW⟩
  case round =>
    obtain ⟨k, hk8, hpos, rfl, rfl, hbel⟩ := hrel
    have HB : Hid (Below w.heap.size w wr) := hbel
    have HP : Hid (∀ j, j < k → 0 < U / 128 ^ j) := hpos
    have HU : Hid (u < 72057594037927936 ∧ u / 128 = U) := ⟨hu, hU⟩
    have HB0 : Hid (UInt8.ofNat (u % 128) = b0) := hb0
    clear hbel hW hpos hcv hbv hbw hb0 hu h1 hU
    obtain ⟨q, hq⟩ : ∃ q, U / 128 ^ k = q := ⟨_, rfl⟩
    have HQ : Hid (U / 128 ^ k = q) := hq
    rw [hq]
    clear hq
    by_cases h0 : q = 0
    · subst h0
      obtain ⟨hu, hU⟩ := HU.out
      have hsz := digits_size u U k hu hU hk8 HQ.out HP.out
      have hput : putL u = lows k U ++ [b0] := by
        unfold putL
        rw [if_pos hu, hsz, hU, HB0.out]
        rfl
      have HPut := hide hput
      clear hput hsz hu hU
      go_wp2
      go_ret
      exact ⟨by rw [HPut.out]; rfl, HB.out⟩
    · have hq0 : (0 : Int) < (q : Int) := by omega
      obtain ⟨x, hx⟩ : ∃ x, hiB q = x := ⟨_, rfl⟩
      obtain ⟨S, hS⟩ : ∃ S : ByteArray, (⟨(lows k U ++ [b0]).toArray⟩ : ByteArray) = S := ⟨_, rfl⟩
      obtain ⟨S2, hS2⟩ : ∃ S : ByteArray, (⟨(lows (k + 1) U ++ [b0]).toArray⟩ : ByteArray) = S := ⟨_, rfl⟩
      have hadd : ∀ V, (Op.stringOp BinOp.add ⟨#[x]⟩ S).run Tryz.prog V = .ok (.string S2) V := fun V => by
        have h := cat_run x (lows k U ++ [b0]) (by rw [List.length_append, lows_length]; simp; omega) V
        rw [hS, ← hx, ← HQ.out] at h
        rw [← hS2, ← hx, ← HQ.out]
        exact h
      have HS := hide (And.intro hS hS2)
      have hcq := fun w => conv_one w x
      have hxv : ((q : Int) % 128 + 128) = (x.toNat : Int) := by
        rw [← hx]; unfold hiB; rw [UInt8.toNat_ofNat']; omega
      rw [hS]
      clear hS hS2 hx
      go_wp2
      obtain ⟨hu, hU⟩ := HU.out
      have hq := HQ.out
      have hqb : q ≤ u := by
        have h1 := Nat.div_le_self U (128 ^ k)
        have h2 := Nat.div_le_self u 128
        omega
      rw [shr_val q (by omega)]
      refine ⟨⟨k + 1, ?_, ?_, ?_, ?_, bl_alloc1 HB.out _⟩, ?_⟩
      · refine Nat.lt_of_not_le fun h8 => h0 ?_
        obtain rfl : k = 8 := by omega
        rw [← hq]
        exact Nat.div_eq_of_lt (by simp only [Nat.reducePow]; omega)
      · intro j hj
        by_cases hjk : j = k
        · subst hjk; omega
        · exact HP.out j (by omega)
      · rw [Nat.pow_succ, ← Nat.div_div_eq_div_mul, hq]
      · rw [HS.out.2]
      · simp [intOf]; omega
end Go.Proofs.YthgclfhfipfknaaGreat.Rec

namespace Go.Proofs.YthgclfhfipfknaaGreat
open Go.ChangeShapes Go.WideShapes Go.ChangeAt Go.RowKit Go.Maps
set_option linter.unusedVariables false

theorem rfour_e (w : World) (f : Nat) (hf : f < 4294967296) : Calls Tryz.prog 49 #[.int .i64 (f : Int)] w fun e w' => e = .returned (.string (cellB f)) ∧ Below w.heap.size w w' := by
  have hc : ∀ V : World, (convert 88 9 (.slice (some ⟨V.heap.size, 0, none⟩) 4 4)).run Tryz.prog (V.alloc (.cells #[.int .u8 ((f : Int) / 16777216), .int .u8 ((f : Int) / 65536 % 256), .int .u8 ((f : Int) / 256 % 256), .int .u8 ((f : Int) % 256)] 5)) = .ok (.string (cellB f)) (V.alloc (.cells #[.int .u8 ((f : Int) / 16777216), .int .u8 ((f : Int) / 65536 % 256), .int .u8 ((f : Int) / 256 % 256), .int .u8 ((f : Int) % 256)] 5)) := fun V => by
    refine conv_piece _ V.heap.size 0 4 [UInt8.ofNat (f / 16777216), UInt8.ofNat (f / 65536), UInt8.ofNat (f / 256), UInt8.ofNat f] (fun j hj => ?_)
    have hj4 : j < 4 := by simpa using hj
    rw [Nat.zero_add, cell_of_row _ _ _ _ _ _ (heap_alloc_new V _)]
    match j, hj4 with
    | 0, _ => simp [byt]; omega
    | 1, _ => simp [byt]
    | 2, _ => simp [byt]
    | 3, _ => simp [byt]
  have hc' := hc w
  clear hc
  go_enter Tryz.func49, Tryz.ntmps49
  go_wp2
  go_ret
  exact ⟨rfl, below_alloc _ _⟩
def pgN (n : Nat) : Nat := if n ≤ 40 then 0 else (n - 40 + 239) / 240
theorem rpages_e (w : World) (n : Nat) (hn : n ≤ 4000) : Calls Tryz.prog 13 #[.int .i64 (n : Int)] w fun e w' => e = .returned (.int .i64 (pgN n : Int)) ∧ w = w' := by
  by_cases h : n ≤ 40
  · have l1 : (n : Int) ≤ 40 := by omega
    have e : pgN n = 0 := by unfold pgN; rw [if_pos h]
    rw [e]
    clear h e
    go_enter Tryz.func13, Tryz.ntmps13
    go_wp2
    go_ret
    exact ⟨rfl, rfl⟩
  · have l1 : ¬ (n : Int) ≤ 40 := by omega
    have e : pgN n = (n - 40 + 239) / 240 := by unfold pgN; rw [if_neg h]
    have l2 : IntKind.i64.wrap ((n : Int) - 40) = (n : Int) - 40 := by rw [IntKind.wrap_i64]; omega
    have l3 : IntKind.i64.wrap ((n : Int) - 40 + 239) = (n : Int) - 40 + 239 := by rw [IntKind.wrap_i64]; omega
    have l4 : IntKind.i64.wrap (((n : Int) - 40 + 239).tdiv 240) = (pgN n : Int) := by
      rw [e, Int.tdiv_eq_ediv_of_nonneg (by omega), IntKind.wrap_i64]; omega
    clear e
    generalize (pgN n : Int) = r at *
    go_enter Tryz.func13, Tryz.ntmps13
    go_wp2
    go_ret
    exact ⟨rfl, rfl⟩
theorem pgN_eq (s : ByteArray) (h : 40 < s.size) : pgN s.size = pcN (s.extract 40 s.size) 240 := by
  unfold pgN pcN
  rw [if_neg (by omega), ByteArray.size_extract]
  congr 2
  omega
set_option maxRecDepth 20000 in
set_option maxHeartbeats 1000000 in
theorem rstub_e (w : World) (s : ByteArray) (f : Nat) (hs : s.size ≤ 4000) (hf : f < 4294967296) : Calls Tryz.prog 15 #[.string s, .int .i64 (f : Int)] w fun e w' => e = .returned (.string (stubB s f)) ∧ Below w.heap.size w w' := by
  have HP := hide (fun V => Rec.rput_small s.size (by omega) V)
  have HF := hide (fun V => rfour_e V f hf)
  have hw : IntKind.u64.wrap (s.size : Int) = (s.size : Int) := by rw [IntKind.wrap_u64]; omega
  have hl : (⟨(Rec.putL s.size).toArray⟩ : ByteArray).size ≤ 9 := by rw [ba_size, Rec.putL_length]; exact (Rec.vsz_pos _).2
  by_cases h : s.size ≤ 40
  · have l1 : (s.size : Int) ≤ 40 := by omega
    have e : stubB s f = ⟨(Rec.putL s.size).toArray⟩ ++ s := by unfold stubB; rw [if_pos h]
    rw [e]
    have hcat : ∀ V, (Op.stringOp BinOp.add ⟨(Rec.putL s.size).toArray⟩ s).run Tryz.prog V = .ok (.string (⟨(Rec.putL s.size).toArray⟩ ++ s)) V := fun V => run_string_add_sum V _ _ (by omega)
    clear h e hs hl
    generalize (⟨(Rec.putL s.size).toArray⟩ : ByteArray) = l at *
    go_enter Tryz.func15, Tryz.ntmps15
    go_wp2_with (first
      | (go_at_call 48; (with_reducible refine Calls.mono (HP.out _) ?_); rintro e w4 ⟨rfl, hb⟩; have HB4 := hide hb; clear hb))
    go_ret
    exact ⟨rfl, HB4.out⟩
  · have l1 : ¬ (s.size : Int) ≤ 40 := by omega
    have l2 : (40 : Int) ≤ (s.size : Int) := by omega
    have e : stubB s f = ⟨(Rec.putL s.size).toArray⟩ ++ s.extract 0 40 ++ cellB f := by unfold stubB; rw [if_neg h]
    rw [e]
    have hcat : ∀ V, (Op.stringOp BinOp.add ⟨(Rec.putL s.size).toArray⟩ (s.extract 0 40)).run Tryz.prog V = .ok (.string (⟨(Rec.putL s.size).toArray⟩ ++ s.extract 0 40)) V := fun V => run_string_add_sum V _ _ (by rw [ByteArray.size_extract]; omega)
    have hcat2 : ∀ V, (Op.stringOp BinOp.add (⟨(Rec.putL s.size).toArray⟩ ++ s.extract 0 40) (cellB f)).run Tryz.prog V = .ok (.string (⟨(Rec.putL s.size).toArray⟩ ++ s.extract 0 40 ++ cellB f)) V := fun V => run_string_add_sum V _ _ (by rw [ByteArray.size_append, ByteArray.size_extract, cellB_size]; omega)
    clear h e hs hl
    generalize (⟨(Rec.putL s.size).toArray⟩ : ByteArray) = l at *
    generalize (l ++ s.extract 0 40 ++ cellB f) = res at *
    generalize (l ++ s.extract 0 40) = r1 at *
    generalize cellB f = cf at *
    go_enter Tryz.func15, Tryz.ntmps15
    go_wp2_with (first
      | (go_at_call 48; (with_reducible refine Calls.mono (HP.out _) ?_); rintro e w4 ⟨rfl, hb⟩; have HB4 := hide (below_trans hb (below_drew w4)); clear hb))
    go_region_held3 (fun V => True) (exact trivial) (first
      | (go_at_call 49; (with_reducible refine Calls.mono (HF.out _) ?_); rintro e w5 ⟨rfl, hb⟩; have HB5 := hide (below_trans HB4.out hb); clear hb))
    all_goals
      go_wp2
      go_ret
      exact ⟨rfl, HB5.out⟩
end Go.Proofs.YthgclfhfipfknaaGreat

namespace Go.Proofs.YthgclfhfipfknaaGreat
variable {sv : Value}
open Go.ChangeShapes Go.WideShapes Go.ChangeAt Go.RowKit Go.Maps
set_option linter.unusedVariables false

/-- What Put of any payload leaves, whatever is free. -/
structure PvE (sv' : Value) (w w' : World) (B0 t pm n base : Nat) (P : Nat → List UInt8) (K : Nat) (F : List Nat) (s : ByteArray) (x : Kd) (P' : Nat → List UInt8) (K' : Nat) : Prop where
  sp : Sp sv' w' t pm (n + (x.G.length - F.length)) P' K' (F.drop x.G.length) zN
  ss : Sv w' base sv' [] pm
  kb : Kb B0 95 w w'
  k5 : K' ≤ K + 51
  eG : x.G = tkL n F x.G.length
  oth : ∀ i, 2 ≤ i → i ≤ n → i ∉ x.G → P' i = P i
  kp : Kp1 P' (n + (x.G.length - F.length)) s x
  len : s.size ≤ 4000 → x.G.length = pgN s.size
  ef : 0 < x.G.length → x.f = tkAt n F 0
  e0 : x.G.length = 0 → x.f = 0
  eb : 4000 < s.size → x.st = ⟨#[]⟩
theorem put_v (w : World) (B0 t pm n base : Nat) {P : Nat → List UInt8} {K : Nat} {F : List Nat} (h : Sp sv w t pm n P K F zN) (hs : Sv w base sv [] pm) (s : ByteArray) (hK : K ≤ 70000) (hn : n + 17 ≤ 4096) (h0 : B0 ≤ t ∧ B0 ≤ pm ∧ B0 ≤ base ∧ base ≤ w.heap.size) :
    Calls Tryz.prog 12 #[.pointer (some ⟨t, 0, none⟩), .string s] w fun e w' => ∃ x sv' P' K', e = .returned (.tuple #[.string x.st, .int .i64 (if s.size ≤ 4000 then 0 else 3)]) ∧ PvE sv' w w' B0 t pm n base P K F s x P' K' := by
  have hb0 : B0 ≤ w.heap.size := by omega
  by_cases h4 : s.size ≤ 4000
  · rw [if_pos h4]
    by_cases h40 : s.size ≤ 40
    · refine (put_short w t pm n h.ld.tr s h40).mono ?_
      rintro e w' ⟨rfl, hb⟩
      refine ⟨⟨_, 0, []⟩, sv, P, K, rfl, ⟨by simpa using h.later hb, hs.later hb, Kb.of_below hb hb0, by omega, rfl, fun _ _ _ _ => rfl, ⟨fun _ => ?_, fun _ => rfl, by simp, fun _ => rfl, fun a => by omega, by simp⟩, fun _ => by unfold pgN; rw [if_pos h40]; rfl, fun a => by simp at a, fun _ => rfl, fun a => by omega⟩⟩
      show _ = stubB s 0
      unfold stubB
      rw [if_pos h40]
    · have hrs : (s.extract 40 s.size).size = s.size - 40 := by rw [ByteArray.size_extract]; omega
      have hM : pcN (s.extract 40 s.size) 240 ≤ 17 := by unfold pcN; rw [hrs]; omega
      have hM0 : 0 < pcN (s.extract 40 s.size) 240 := by unfold pcN; rw [hrs]; omega
      refine (put_long w B0 t pm n base h hs s (by omega) h4 hK (by omega) h0).mono ?_
      rintro e w' ⟨rfl, sv', P', K', g1, g2, g3, g4, g5, g6⟩
      have hl := tkL_length n F (pcN (s.extract 40 s.size) 240)
      have hrl : (s.extract 40 s.size).data.toList = s.data.toList.drop 40 := by
        have hl : s.data.toList.length = s.size := bytes_size s
        rw [ByteArray.data_extract, Array.toList_extract, List.extract_eq_take_drop, List.take_of_length_le (by rw [List.length_drop, hl]; exact Nat.le_refl _)]
      rw [hrl] at g4
      have hb := tkAt_bd h.ch.all h.ld.one 0
      refine ⟨⟨_, tkAt n F 0, tkL n F (pcN (s.extract 40 s.size) 240)⟩, sv', P', K', rfl, ⟨by rw [hl]; exact g1, g5, g6, by omega, by rw [hl], g3, ⟨fun _ => ?_, fun a => by omega, by show tkAt n F 0 < _; omega, fun a => absurd a h40, fun _ _ => by rw [hl]; exact g4, by rw [hl]; exact hM⟩, fun _ => by rw [hl, pgN_eq s (by omega)], fun _ => rfl, fun a => by rw [hl] at a; omega, fun a => by omega⟩⟩
      show _ = stubB s (tkAt n F 0)
      unfold stubB
      rw [if_neg h40]
  · rw [if_neg h4]
    refine (put_big w t pm n h.ld.tr s (by omega)).mono ?_
    rintro e w' ⟨rfl, hb⟩
    exact ⟨⟨⟨#[]⟩, 0, []⟩, sv, P, K, rfl, ⟨by simpa using h.later hb, hs.later hb, Kb.of_below hb hb0, by omega, rfl, fun _ _ _ _ => rfl, ⟨fun a => absurd a h4, fun _ => rfl, by simp, fun _ => rfl, fun _ a => absurd a h4, by simp⟩, fun a => absurd a h4, fun a => by simp at a, fun _ => rfl, fun _ => rfl⟩⟩
/-- A payload that is kept, and where its row of pages lies. -/
structure Kt where
  s : ByteArray
  x : Kd
  pp : Option Addr
  kp : Nat
def ktG (k : Kt) : List Nat := k.x.G
structure PT (sv : Value) (w wr : World) (t pm base n : Nat) (P : Nat → List UInt8) (K : Nat) (F : List Nat) (Ks : List Kt) (m : Nat) : Prop where
  sp : Sp sv wr t pm n P K F zN
  ss : Sv wr base sv [] pm
  bel : Below w.heap.size w wr
  k3 : K ≤ 1 + 60 * m
  n17 : n ≤ 1 + 17 * m
  kp : ∀ k ∈ Ks, Kp1 P n k.s k.x ∧ k.s.size ≤ 4000
  nd : (F ++ Ks.flatMap ktG).Nodup
  bd : ∀ g ∈ Ks.flatMap ktG, 2 ≤ g ∧ g ≤ n
  bs : w.heap.size ≤ t ∧ w.heap.size ≤ pm ∧ w.heap.size ≤ base ∧ base ≤ wr.heap.size
theorem PT.later {w wr w' : World} {t pm base n : Nat} {P : Nat → List UInt8} {K : Nat} {F : List Nat} {Ks : List Kt} {m : Nat} (h : PT sv w wr t pm base n P K F Ks m) (hb : Below wr.heap.size wr w') : PT sv w w' t pm base n P K F Ks m :=
  ⟨h.sp.later hb, h.ss.later hb, below_trans h.bel hb, h.k3, h.n17, h.kp, h.nd, h.bd, ⟨h.bs.1, h.bs.2.1, h.bs.2.2.1, Nat.le_trans h.bs.2.2.2 hb.size⟩⟩
/-- Blocks that are none of the transaction's change. -/
theorem PT.only {w wr w' : World} {t pm base n : Nat} {P : Nat → List UInt8} {K : Nat} {F : List Nat} {Ks : List Kt} {m : Nat} (h : PT sv w wr t pm base n P K F Ks m) {X : List Nat} (ho : Only X wr w') (hX : ∀ b ∈ X, w.heap.size ≤ b ∧ ∃ c ty, Blk wr b c ty ∧ Ot ty ∧ ty ≠ 117) : PT sv w w' t pm base n P K F Ks m := by
  refine ⟨h.sp.onlyX ho (fun b hb => let ⟨_, c, ty, h1, h2, _⟩ := hX b hb; ⟨c, ty, h1, h2⟩), h.ss.only ho (fun g e hm => ?_) (fun s hs => by cases hs), below_only h.bel ho (fun g hg => (hX g hg).1), h.k3, h.n17, h.kp, h.nd, h.bd, ⟨h.bs.1, h.bs.2.1, h.bs.2.2.1, Nat.le_trans h.bs.2.2.2 ho.size⟩⟩
  obtain ⟨_, c, ty, h1, _, h3⟩ := hX g hm
  obtain ⟨_, c', hb⟩ := ownC_blk h.ss.row e
  exact blk_ne hb h1 (Ne.symm h3) rfl
theorem PT.up {w wr : World} {t pm base n : Nat} {P : Nat → List UInt8} {K : Nat} {F : List Nat} {Ks : List Kt} {m : Nat} (h : PT sv w wr t pm base n P K F Ks m) : PT sv w wr t pm base n P K F Ks (m + 1) :=
  ⟨h.sp, h.ss, h.bel, by have := h.k3; omega, by have := h.n17; omega, h.kp, h.nd, h.bd, h.bs⟩
theorem tk_drop {n : Nat} {F : List Nat} (hn : F.Nodup) (hF : ∀ g ∈ F, g ≤ n) (M : Nat) : ∀ g ∈ tkL n F M, g ∉ F.drop M := fun g hg hm => by
  obtain ⟨i, hi, rfl⟩ := List.mem_map.1 hg
  have hi := List.mem_range.1 hi
  obtain ⟨j, hj1, hj2⟩ := List.getElem_of_mem hm
  rw [List.getElem_drop] at hj2
  have hjl : M + j < F.length := by rw [List.length_drop] at hj1; omega
  have e : tkAt n F (M + j) = tkAt n F i := by
    rw [← hj2]
    unfold tkAt
    rw [if_pos hjl, getD_lt hjl]
  have := tkAt_inj hn hF e
  omega
/-- A payload was put in. -/
theorem PT.put {sv' : Value} {w wr w' : World} {t pm base n : Nat} {P P' : Nat → List UInt8} {K K' : Nat} {F : List Nat} {Ks : List Kt} {m : Nat} {s : ByteArray} {x : Kd} (h : PT sv w wr t pm base n P K F Ks m) (hp : PvE sv' wr w' w.heap.size t pm n base P K F s x P' K') (h4 : s.size ≤ 4000) (pp : Option Addr) (kp : Nat) : PT sv' w w' t pm base (n + (x.G.length - F.length)) P' K' (F.drop x.G.length) (Ks ++ [⟨s, x, pp, kp⟩]) (m + 1) := by
  have hgl := hp.kp.gl
  have hnd := List.nodup_append.1 h.nd
  have hF2 : ∀ g ∈ F, g ≤ n := fun g hg => (h.sp.ch.all g hg).2
  have hx : ∀ g ∈ x.G, (g ∈ F ∨ n < g) ∧ 2 ≤ g ∧ g ≤ n + (x.G.length - F.length) := fun g hg => by
    rw [hp.eG] at hg
    obtain ⟨i, hi, rfl⟩ := List.mem_map.1 hg
    have hi := List.mem_range.1 hi
    have b := tkAt_bd h.sp.ch.all h.sp.ld.one i
    exact ⟨tkAt_mem n F i, b.1, by omega⟩
  have hxK : ∀ g ∈ x.G, g ∉ Ks.flatMap ktG := fun g hg hk => by
    rcases (hx g hg).1 with a | a
    · exact hnd.2.2 g a g hk rfl
    · have := (h.bd g hk).2; omega
  have e : (Ks ++ [(⟨s, x, pp, kp⟩ : Kt)]).flatMap ktG = Ks.flatMap ktG ++ x.G := by simp [ktG]
  refine ⟨hp.sp, hp.ss, h.bel.trans hp.kb.bel, by have := h.k3; have := hp.k5; omega, by have := h.n17; omega, fun k hk => ?_, ?_, fun g hg => ?_, ⟨h.bs.1, h.bs.2.1, h.bs.2.2.1, Nat.le_trans h.bs.2.2.2 hp.kb.bel.size⟩⟩
  · rcases List.mem_append.1 hk with hk | hk
    · refine ⟨(h.kp k hk).1.same (fun g hg => ?_) (by omega), (h.kp k hk).2⟩
      have hgk : g ∈ Ks.flatMap ktG := List.mem_flatMap.2 ⟨k, hk, hg⟩
      have hb := h.bd g hgk
      exact hp.oth g hb.1 hb.2 (fun a => hxK g a hgk)
    · obtain rfl := List.mem_singleton.1 hk
      exact ⟨hp.kp, h4⟩
  · rw [e]
    refine List.nodup_append.2 ⟨hnd.1.sublist (List.drop_sublist _ _), List.nodup_append.2 ⟨hnd.2.1, by rw [hp.eG]; exact tkL_nodup hnd.1 hF2 _, fun a ha b hb e => ?_⟩, fun a ha b hb e => ?_⟩
    · subst e; exact hxK a hb ha
    · subst e
      rcases List.mem_append.1 hb with hb | hb
      · exact hnd.2.2 a (List.mem_of_mem_drop ha) a hb rfl
      · rw [hp.eG] at hb; exact tk_drop hnd.1 hF2 _ a hb (by rw [← hp.eG] at hb; exact ha)
  · rw [e] at hg
    rcases List.mem_append.1 hg with hg | hg
    · have := h.bd g hg; omega
    · exact (hx g hg).2
/-- A payload was taken out. -/
theorem PT.drop {w wr w' : World} {t pm base n : Nat} {P : Nat → List UInt8} {K : Nat} {F : List Nat} {Ks Ks' : List Kt} {m : Nat} {k : Kt} (h : PT sv w wr t pm base n P K F Ks m) (hp : Ks.Perm (k :: Ks')) (hd : DpE wr w' w.heap.size t pm n base P K F zN k.x.G) : ∃ sv' P' K', PT sv' w w' t pm base n P' K' (k.x.G ++ F) Ks' (m + 1) ∧ Kb w.heap.size 95 wr w' := by
  obtain ⟨sv', P', K', h1, h2, h3, h4, h5⟩ := hd
  have hk := (h.kp k (hp.mem_iff.2 (by simp))).1
  have hgl := hk.gl
  have hpf : (Ks.flatMap ktG).Perm (k.x.G ++ Ks'.flatMap ktG) := by
    have := hp.flatMap_right ktG
    rw [List.flatMap_cons] at this
    exact this
  have hnd2 : (F ++ (k.x.G ++ Ks'.flatMap ktG)).Nodup := (hpf.append_left F).nodup_iff.1 h.nd
  have hp3 : (F ++ (k.x.G ++ Ks'.flatMap ktG)).Perm ((k.x.G ++ F) ++ Ks'.flatMap ktG) := by
    rw [← List.append_assoc]
    exact List.perm_append_comm.append_right _
  refine ⟨sv', P', K', ⟨h1, h4, h.bel.trans h5.bel, by have := h.k3; omega, by have := h.n17; omega, fun y hy => ?_, hp3.nodup_iff.1 hnd2, fun g hg => h.bd g (hpf.mem_iff.2 (List.mem_append_right _ hg)), ⟨h.bs.1, h.bs.2.1, h.bs.2.2.1, Nat.le_trans h.bs.2.2.2 h5.bel.size⟩⟩, h5⟩
  have hyk := h.kp y (hp.mem_iff.2 (List.mem_cons_of_mem _ hy))
  refine ⟨hyk.1.same (fun g hg => ?_) (Nat.le_refl _), hyk.2⟩
  have hgm : g ∈ Ks'.flatMap ktG := List.mem_flatMap.2 ⟨y, hy, hg⟩
  refine h3 g (h.bd g (hpf.mem_iff.2 (List.mem_append_right _ hgm))).1 (fun hgx => ?_)
  exact (List.nodup_append.1 (List.nodup_append.1 hnd2).2.1).2.2 g hgx g hgm rfl
/-- What is found of a payload that is kept, with something behind its stub. -/
theorem PT.found {w wr : World} {t pm base n : Nat} {P : Nat → List UInt8} {K : Nat} {F : List Nat} {Ks : List Kt} {m : Nat} {k : Kt} (h : PT sv w wr t pm base n P K F Ks m) (hk : k ∈ Ks) (more : ByteArray) : foundR P n (k.x.st ++ more) = some (k.s.data.toList, k.x.G) ∧ rdSz (k.x.st ++ more) = k.x.st.size ∧ k.x.G.Nodup ∧ (∀ g ∈ k.x.G, g ∉ F) ∧ k.x.st.size ≤ 60 := by
  obtain ⟨hp, h4⟩ := h.kp k hk
  have e := hp.st h4
  have hf := stub_found (P := P) (m := n) (x := more) h4 hp.f4 hp.sh (fun a => hp.lg a h4)
  have hr := stub_read k.s k.x.f h4 hp.f4 more
  have hnd := List.nodup_append.1 h.nd
  have hsz := stubB_size k.s k.x.f
  have hv := Rec.vsz_pos k.s.size
  rw [e]
  refine ⟨hf, hr.2.2.1, ?_, fun g hg hF => hnd.2.2 g hF g (List.mem_flatMap.2 ⟨k, hk, hg⟩) rfl, by rw [hsz]; split <;> omega⟩
  obtain ⟨A, B, rfl⟩ := List.append_of_mem hk
  have h2 := hnd.2.1
  rw [List.flatMap_append, List.flatMap_cons] at h2
  exact (List.nodup_append.1 (List.nodup_append.1 h2).2.1).1
theorem drop_pt {w wr : World} {t pm base n : Nat} {P : Nat → List UInt8} {K : Nat} {F : List Nat} {Ks : List Kt} {m : Nat} {k : Kt} (h : PT sv w wr t pm base n P K F Ks m) (hk : k ∈ Ks) (more : ByteArray) (hm : more.size ≤ 140737488351232) (hm4 : m ≤ 100) : Calls Tryz.prog 9 #[.pointer (some ⟨t, 0, none⟩), .string (k.x.st ++ more)] wr fun e w' => e = .returned (.int .i64 0) ∧ DpE wr w' w.heap.size t pm n base P K F zN k.x.G := by
  obtain ⟨h1, _, h3, h4, h5⟩ := h.found hk more
  have k3 := h.k3
  exact drop_g wr w.heap.size t pm n base h.sp h.ss (by omega) _ (by rw [ByteArray.size_append]; omega) _ _ h1 h3 h4 h.bs
theorem told_pt {w wr : World} {t pm base n : Nat} {P : Nat → List UInt8} {K : Nat} {F : List Nat} {Ks : List Kt} {m : Nat} {k : Kt} (h : PT sv w wr t pm base n P K F Ks m) (hk : k ∈ Ks) (more : ByteArray) (hm : more.size ≤ 1000) (hf : FrP wr k.pp k.kp k.x.G) : Calls Tryz.prog 16 #[.pointer (some ⟨t, 0, none⟩), .agg (kdA k.x.st k.s k.pp k.x.G.length k.kp), .string more] wr fun e w' => e = .returned (.bool true) ∧ Below wr.heap.size wr w' := by
  obtain ⟨h1, h2, _, _, h5⟩ := h.found hk more
  have hgl := (h.kp k hk).1.gl
  exact told_e wr t pm n h.sp.ld.tr _ _ more _ _ _ h1 h2 (by rw [ByteArray.size_append]; omega) hf (by omega)
end Go.Proofs.YthgclfhfipfknaaGreat

namespace Go.Proofs.YthgclfhfipfknaaGreat
variable {sv : Value}
open Go.ChangeShapes Go.WideShapes Go.ChangeAt Go.RowKit Go.Maps
set_option linter.unusedVariables false

theorem FrP.kb {w w' : World} {B0 : Nat} {p : Option Addr} {cap : Nat} {G : List Nat} (h : FrP w p cap G) (hk : Kb B0 95 w w') : FrP w' p cap G :=
  ⟨h.1, h.2.1, fun h0 => by
    obtain ⟨b, o, e, ⟨c, hc⟩, g⟩ := h.2.2 h0
    have hc' := hk.kp _ _ _ hc (by decide) (by decide) (by decide)
    exact ⟨b, o, e, ⟨c, hc'⟩, fun j x hj => by rw [hc'.cell]; have := g j x hj; rwa [hc.cell] at this⟩⟩
/-- The document's space in memory. -/
structure PB (wr : World) (b n : Nat) (F : List Nat) (p : Option Addr) (c : Nat) : Prop where
  sB : SpB wr b true (n : Int) (.slice p F.length c) zN
  fr : FrP wr p c F
theorem PB.later {wr w' : World} {b n : Nat} {F : List Nat} {p : Option Addr} {c : Nat} (h : PB wr b n F p c) (hb : Below wr.heap.size wr w') : PB w' b n F p c := ⟨h.sB.later hb, h.fr.later hb⟩
theorem PB.kb {wr w' : World} {B0 b n : Nat} {F : List Nat} {p : Option Addr} {c : Nat} (h : PB wr b n F p c) (hk : Kb B0 95 wr w') : PB w' b n F p c := ⟨hk.kp _ _ _ h.sB (by decide) (by decide) (by decide), h.fr.kb hk⟩
theorem PB.only {wr w' : World} {b n : Nat} {F : List Nat} {p : Option Addr} {c : Nat} (h : PB wr b n F p c) {X : List Nat} (ho : Only X wr w') (hX : ∀ k ∈ X, ∃ c ty, Blk wr k c ty ∧ ty ≠ 31 ∧ ty ≠ 3) : PB w' b n F p c :=
  ⟨Blk.only h.sB ho (fun hm => let ⟨c, ty, h1, h2, _⟩ := hX _ hm; blk_ne h.sB h1 (Ne.symm h2) rfl), h.fr.only ho (fun k hk c hc => let ⟨c', ty, h1, _, h3⟩ := hX _ hk; blk_ne hc h1 (Ne.symm h3) rfl)⟩
def ktL (k : Kt) : List Value := [.string k.x.st, .string k.s, .slice k.pp k.x.G.length k.kp]
theorem ktL_len (k : Kt) : (ktL k).length = 3 := rfl
theorem ktL_one (k : Kt) : ∀ u ∈ ktL k, u.oneCell' = true := by
  intro v hv
  simp only [ktL, List.mem_cons, List.not_mem_nil, or_false] at hv
  rcases hv with rfl | rfl | rfl <;> rfl
/-- The row of payloads that are kept. -/
structure PR (wr : World) (base : Nat) (v : Value) (Ks : List Kt) : Prop where
  row : wr.ownsRow base 38 3 v Ks.length (Ks.flatMap ktL)
  frs : ∀ k ∈ Ks, FrP wr k.pp k.kp k.x.G
theorem PR.only {wr w' : World} {base : Nat} {v : Value} {Ks : List Kt} (h : PR wr base v Ks) {X : List Nat} (ho : Only X wr w') (hX : ∀ k ∈ X, ∃ c ty, Blk wr k c ty ∧ ty ≠ 38 ∧ ty ≠ 3) : PR w' base v Ks :=
  ⟨own_only2 h.row ho (fun g hg hm => by
    obtain ⟨c, ty, h1, h2, _⟩ := hX _ hm
    obtain ⟨_, c', hb⟩ := ownC_blk h.row hg
    exact blk_ne hb h1 (Ne.symm h2) rfl), fun k hk => (h.frs k hk).only ho (fun b hb c hc => let ⟨c', ty, h1, _, h3⟩ := hX _ hb; blk_ne hc h1 (Ne.symm h3) rfl)⟩
theorem PR.later {wr w' : World} {base : Nat} {v : Value} {Ks : List Kt} (h : PR wr base v Ks) (hb : Below wr.heap.size wr w') : PR w' base v Ks := h.only (Only.of_below (S := []) hb) (by simp)
theorem PR.kb {wr w' : World} {B0 base : Nat} {v : Value} {Ks : List Kt} (h : PR wr base v Ks) (hk : Kb B0 95 wr w') : PR w' base v Ks := by
  refine ⟨⟨h.row.1, ?_⟩, fun k hkm => (h.frs k hkm).kb hk⟩
  rcases h.row.2 with hn | ⟨g, cap, cur, rfl, hb, hgg, rest⟩
  · exact .inl hn
  · exact .inr ⟨g, cap, cur, rfl, hb, hk.kp _ _ _ hgg (by decide) (by decide) (by decide), rest⟩
theorem flat_at {Ks : List Kt} : ∀ {i : Nat} {k : Kt}, Ks[i]? = some k → ∀ c, c < 3 → (Ks.flatMap ktL)[i * 3 + c]? = (ktL k)[c]? := by
  induction Ks with
  | nil => intro i k h; simp at h
  | cons a Ks ih =>
    intro i k h c hc
    rw [List.flatMap_cons]
    cases i with
    | zero =>
      obtain rfl : a = k := by simpa using h
      rw [Nat.zero_mul, Nat.zero_add, List.getElem?_append_left (by rw [ktL_len]; exact hc)]
    | succ i =>
      rw [List.getElem?_append_right (by rw [ktL_len]; omega), ktL_len, show (i + 1) * 3 + c - 3 = i * 3 + c by omega]
      exact ih (by simpa using h) c hc
theorem flat_len (Ks : List Kt) : (Ks.flatMap ktL).length = Ks.length * 3 := by
  induction Ks with
  | nil => rfl
  | cons a Ks ih => rw [List.flatMap_cons, List.length_append, ih, ktL_len, List.length_cons]; omega
theorem flat_take (Ks : List Kt) : ∀ j, (Ks.take j).flatMap ktL = (Ks.flatMap ktL).take (j * 3) := by
  induction Ks with
  | nil => intro j; simp
  | cons a Ks ih =>
    intro j
    cases j with
    | zero => simp
    | succ j =>
      rw [List.take_succ_cons, List.flatMap_cons, List.flatMap_cons, ih, show (j + 1) * 3 = (ktL a).length + j * 3 by rw [ktL_len]; omega, List.take_length_add_append]
theorem flat_set (Ks : List Kt) (k : Kt) : ∀ i, i < Ks.length → (Ks.set i k).flatMap ktL = (Ks.flatMap ktL).take (i * 3) ++ ktL k ++ (Ks.flatMap ktL).drop (i * 3 + 3) := by
  induction Ks with
  | nil => intro i h; simp at h
  | cons a Ks ih =>
    intro i h
    cases i with
    | zero =>
      rw [List.set_cons_zero, List.flatMap_cons, List.flatMap_cons, Nat.zero_mul, List.take_zero, List.nil_append, Nat.zero_add, show 3 = (ktL a).length from rfl, List.drop_left]
    | succ i =>
      rw [List.set_cons_succ, List.flatMap_cons, List.flatMap_cons, ih i (by simpa using h), show (i + 1) * 3 = (ktL a).length + i * 3 by rw [ktL_len]; omega, List.take_length_add_append, Nat.add_assoc, List.drop_length_add_append, List.append_assoc, List.append_assoc, List.append_assoc]
/-- What is left where the last one comes into a place. -/
def cutK (Ks : List Kt) (i : Nat) (l : Kt) : List Kt := (Ks.set i l).dropLast
theorem cutK_len (Ks : List Kt) (i : Nat) (l : Kt) : (cutK Ks i l).length = Ks.length - 1 := by simp [cutK]
theorem cut_perm {Ks : List Kt} {i : Nat} {k l : Kt} (hi : Ks[i]? = some k) (hl : Ks[Ks.length - 1]? = some l) : Ks.Perm (k :: cutK Ks i l) := by
  obtain ⟨hlt, hk⟩ := List.getElem?_eq_some_iff.1 hi
  have e : Ks = Ks.take i ++ k :: Ks.drop (i + 1) := by rw [← hk]; simp
  obtain ⟨A, hA⟩ : ∃ A, Ks.take i = A := ⟨_, rfl⟩
  obtain ⟨B, hB⟩ : ∃ B, Ks.drop (i + 1) = B := ⟨_, rfl⟩
  have hAl : A.length = i := by rw [← hA, List.length_take]; omega
  rw [hA, hB] at e
  subst e
  unfold cutK
  rw [← hAl, List.set_append_right _ _ (Nat.le_refl _), Nat.sub_self, List.set_cons_zero]
  rcases List.eq_nil_or_concat B with rfl | ⟨B', l', rfl⟩
  · have : l = k := by
      rw [List.length_append, List.length_singleton, Nat.add_sub_cancel, List.getElem?_append_right (Nat.le_refl _), Nat.sub_self] at hl
      simpa using hl.symm
    subst this
    rw [List.dropLast_concat]
    exact List.perm_append_singleton _ _
  · rw [List.concat_eq_append] at hl ⊢
    have : l = l' := by
      rw [show (A ++ k :: (B' ++ [l'])).length - 1 = A.length + (B'.length + 1) by simp, List.getElem?_append_right (by omega), Nat.add_sub_cancel_left] at hl
      simpa using hl.symm
    subst this
    rw [show A ++ l :: (B' ++ [l]) = (A ++ l :: B') ++ [l] by simp, List.dropLast_concat]
    refine List.perm_middle.trans (List.Perm.cons _ ((List.Perm.append_left A (List.perm_append_singleton l B'))))
theorem cut_mem {Ks : List Kt} {i : Nat} {k l : Kt} (hi : Ks[i]? = some k) (hl : Ks[Ks.length - 1]? = some l) {y : Kt} (hy : y ∈ cutK Ks i l) : y ∈ Ks := (cut_perm hi hl).mem_iff.2 (List.mem_cons_of_mem _ hy)
/-- A payload comes into a place, and the row is shorter. -/
theorem PR.cut {wr : World} {base g len cap i : Nat} {Ks : List Kt} {k l : Kt} (h : PR wr base (.slice (some ⟨g, 0, none⟩) len cap) Ks) (hlen : len = Ks.length) (hi : Ks[i]? = some k) (hl : Ks[Ks.length - 1]? = some l) :
    wr.there g (i * 3) 3 ∧ PR (wr.setCells g (i * 3) (ktL l)) base (.slice (some ⟨g, 0, none⟩) (len - 1) cap) (cutK Ks i l) ∧ Only [g] wr (wr.setCells g (i * 3) (ktL l)) := by
  subst hlen
  have hlt := (List.getElem?_eq_some_iff.1 hi).1
  rcases h.row.2 with ⟨e, h0⟩ | ⟨g', cap', cur, e, hb, hh, hn, hm, hs, ht⟩
  · omega
  · injection e with e1 e2 e3
    injection e1 with e1
    injection e1 with e1
    subst e1; subst e3
    have hB : Blk wr g cur 38 := hh
    have ho : Only [g] wr (wr.setCells g (i * 3) (ktL l)) := only_cells _ _ _ _
    refine ⟨hB.there (by omega), ⟨⟨by rw [flat_len], .inr ⟨g, cap, _, by rw [cutK_len], hb, blk_cells (ktL l) (i * 3) wr cur hB (by rw [ktL_len]; omega), by rw [cutK_len]; omega, hm, ?_, ?_⟩⟩, fun y hy => (h.frs y (cut_mem hi hl hy)).only ho (fun b hbm c hc => ?_)⟩, ho⟩
    · simp only [List.size_toArray, List.length_append, List.length_take, List.length_drop, ktL_len, Array.length_toList]
      omega
    · rw [cutK_len]
      unfold cutK
      rw [List.dropLast_eq_take, List.length_set, flat_take, flat_set _ _ _ hlt, ← ht, ktL_len]
      have e1 : ((Ks.length - 1) * 3) = min ((Ks.length - 1) * 3) (Ks.length * 3) := by omega
      rw [List.take_take, Nat.min_eq_left (by omega), List.drop_take]
      simp only [List.append_assoc]
      rw [List.take_append, List.take_append, List.take_append, List.take_append]
      simp only [List.length_take, Array.length_toList, ktL_len, List.take_take]
      congr 2
      congr 1
      omega
    · have e1 : b = g := by simpa using hbm
      subst e1
      exact blk_ne hc hB (by decide) rfl
/-- The cells of the row. -/
theorem PR.at {wr : World} {base g len cap i : Nat} {Ks : List Kt} {k : Kt} (h : PR wr base (.slice (some ⟨g, 0, none⟩) len cap) Ks) (hi : Ks[i]? = some k) (c : Nat) (hc : c < 3) : wr.cell? ⟨g, i * 3 + c, none⟩ = (ktL k)[c]? := by
  have hlt := (List.getElem?_eq_some_iff.1 hi).1
  rcases h.row.2 with ⟨e, h0⟩ | ⟨g', cap', cur, e, hb, hh, hn, hm, hs, ht⟩
  · omega
  · injection e with e1 e2 e3
    injection e1 with e1
    injection e1 with e1
    subst e1; subst e3
    rw [Lib.cell_of_heap hh, ← flat_at hi c hc, ← ht, List.getElem?_take_of_lt (by omega)]
    simp
theorem PR.ptr {wr : World} {base len cap : Nat} {p : Option Addr} {Ks : List Kt} (h : PR wr base (.slice p len cap) Ks) (h0 : 0 < Ks.length) : ∃ g, p = some ⟨g, 0, none⟩ := by
  rcases h.row.2 with ⟨e, h0⟩ | ⟨g', cap', cur, e, _⟩
  · omega
  · injection e with e1 _ _
    exact ⟨g', e1⟩
theorem PR.frz {wr : World} {base g len cap : Nat} {Ks : List Kt} (h : PR wr base (.slice (some ⟨g, 0, none⟩) len cap) Ks) (h0 : 0 < Ks.length) : ∃ c, Blk wr g c 38 ∧ base ≤ g := by
  obtain ⟨hb, c, hc⟩ := ownC_blk h.row (g := g) rfl
  exact ⟨c, hc, hb⟩
theorem kt_info : ∃ i z, Tryz.prog.info? 38 = some i ∧ i.zero = some z ∧ i.size = 3 ∧ z.cells.size = 3 ∧ i.bytes ≤ 1000 := by
  have h : (Tryz.prog.info? 38).map (fun i => (i.zero.map (·.cells.size), i.size, decide (i.bytes ≤ 1000))) = some (some 3, 3, true) := by kernel_rfl
  obtain ⟨i, h1, h2⟩ := Option.map_eq_some_iff.1 h
  simp only [Prod.mk.injEq] at h2
  obtain ⟨z, hz, hs⟩ := Option.map_eq_some_iff.1 h2.1
  exact ⟨i, z, h1, hz, h2.2.1, hs, of_decide_eq_true h2.2.2⟩
/-- Behind an append to the row. -/
theorem PR.app {wr w' : World} {base : Nat} {v v' : Value} {Ks : List Kt} {k : Kt} (h : PR wr base v Ks) (ho : w'.ownsRow base 38 3 v' (Ks.length + 1) (Ks.flatMap ktL ++ ktL k)) (hg : wr.grownBy w' v.ownBlock) (hf : FrP wr k.pp k.kp k.x.G) : PR w' base v' (Ks ++ [k]) := by
  have hX : ∀ b ∈ v.ownBlock.toList, ∀ c, ¬ Blk wr b c 3 := fun b hb c hc => by
    have e : v.ownBlock = some b := by simpa using hb
    obtain ⟨_, c', hc'⟩ := ownC_blk h.row e
    exact blk_ne hc hc' (by decide) rfl
  refine ⟨?_, fun y hy => ?_⟩
  · rw [List.length_append, List.length_singleton, List.flatMap_append, List.flatMap_cons, List.flatMap_nil, List.append_nil]
    exact ho
  · rcases List.mem_append.1 hy with hy | hy
    · exact (h.frs y hy).only (Only.of_grown hg) hX
    · obtain rfl := List.mem_singleton.1 hy
      exact hf.only (Only.of_grown hg) hX
end Go.Proofs.YthgclfhfipfknaaGreat

namespace Go.Proofs.YthgclfhfipfknaaGreat
variable {sv : Value}
open Go.ChangeShapes Go.WideShapes Go.ChangeAt Go.RowKit Go.Maps
set_option linter.unusedVariables false

set_option maxRecDepth 20000 in
set_option maxHeartbeats 1000000 in
theorem rtake_some2 (w : World) (c : Int) (b o cap : Nat) (g : Nat) (G : List Nat) (N : Nat → Nat) (hf : FrP w (some ⟨b, o, none⟩) cap (g :: G)) (hG : G.length ≤ 5000) : Calls Tryz.prog 14 #[.agg (spL true c (.slice (some ⟨b, o, none⟩) (G.length + 1) cap) N).toArray] w fun e w' => ∃ p', e = .returned (.tuple #[.agg (spL true c (.slice p' G.length (cap - 1)) N).toArray, .int .i64 (g : Int), .int .i64 0]) ∧ (FrP w' p' (cap - 1) G ∧ ∃ o', p' = some ⟨b, o', none⟩) ∧ Below w.heap.size w w' := by
  obtain ⟨W, hW, k1, k2, hb⟩ := two_sp w true c (.slice (some ⟨b, o, none⟩) (G.length + 1) cap) N
  obtain ⟨q, hq⟩ : ∃ q : Option Addr, q = (if cap = 1 then some ⟨b, o, none⟩ else some ⟨b, o + 1, none⟩) := ⟨_, rfl⟩
  have hcap : G.length + 1 ≤ cap := hf.1
  have hfr : FrP w q (cap - 1) G := by
    refine ⟨by omega, (fun hn => by rw [hq] at hn; split at hn <;> cases hn), fun h0 => ?_⟩
    obtain ⟨b', o', e, hc, hg⟩ := hf.2.2 (by simp)
    simp only [Option.some.injEq, Addr.mk.injEq] at e
    obtain ⟨rfl, rfl, _⟩ := e
    refine ⟨b, o + 1, by rw [hq, if_neg (by omega)], hc, fun j x hj => ?_⟩
    have := hg (j + 1) x (by simpa using hj)
    rw [show o + 1 + j = o + (j + 1) by omega]
    exact this
  have c0 := k1.c0
  have c2 := k1.c2
  have f2 := Blk.frozen k1 2
  have cg : W.cell? ⟨b, o, none⟩ = some (.int .i64 (g : Int)) := by
    obtain ⟨b', o', e, hc, hg⟩ := (hf.later hb).2.2 (by simp)
    simp only [Option.some.injEq, Addr.mk.injEq] at e
    obtain ⟨rfl, rfl, _⟩ := e
    exact hg 0 g rfl
  have HI := hide (infoSp true c (.slice q G.length (cap - 1)) N)
  have HSz := hide (sp_size true false c 0 (.slice q G.length (cap - 1)) (.slice none 0 0) N zN)
  have HOn := hide (sp_one true c q G.length (cap - 1) N)
  have HK1 := hide (k1.setF (.slice q G.length (cap - 1)))
  have HK2 := hide (k2.far (a := w.heap.size) (o := 2) (by omega) (.slice q G.length (cap - 1)))
  have HB := hide (hb.setCell (p := ⟨w.heap.size, 2, none⟩) (Nat.le_refl _) (.slice q G.length (cap - 1)))
  have HFr := hide hfr
  have HWn := hide (show w.heap.size ≤ w.heap.size + 1 by omega)
  have l1 : (0 : Int) < (G.length : Int) + 1 := by omega
  have l2 : (1 : Int) ≤ (G.length : Int) + 1 := by omega
  have l3 : (G.length : Int) + 1 ≤ (cap : Int) := by omega
  have l4 : (1 : Int) ≤ (cap : Int) := by omega
  clear k1 k2 hb hf hG hfr
  have HCp := hide hcap
  clear hcap
  go_enter Tryz.func14, Tryz.ntmps14
  go_upto_region 1 with fail
  rw [← hW]
  clear hW
  by_cases hc1 : cap = 1
  · rw [if_pos hc1] at hq
    subst hq
    subst hc1
    obtain rfl : G = [] := List.eq_nil_of_length_eq_zero (by have := HCp.out; omega)
    simp only [Nat.sub_self, List.length_nil] at HI HSz HOn HK1 HK2 HB HFr
    clear l1 l2 l3 l4
    go_wp2_with (first
      | ((with_reducible refine atLd 31 ?_); refine wp_loadB (c := (spL true c (.slice (some ⟨b, o, none⟩) 0 0) N).toArray) HI.out uSp HK1.out _ (by rfl) (by rfl) (by rfl) ?_)
      | ((with_reducible refine atSt 31 ?_); refine wp_storeB (c := (spL true c (.slice (some ⟨b, o, none⟩) 0 0) N).toArray) HI.out HSz.out HOn.out HK2.out _ _ (by rfl) (by rfl) (by rfl) (by rfl) ?_; intro W5 hb5 ho5; have HF5 := hide hb5; have HB5 := hide (below_only1 HB.out ho5 HWn.out); clear hb5 ho5))
    refine ret_sp3 (c := (spL true c (.slice (some ⟨b, o, none⟩) 0 0) N).toArray) HI.out uSp Tryz.results14 (by rfl) (by rfl) (by rfl) HF5.out ?_
    exact ⟨_, rfl, ⟨HFr.out.later HB5.out, _, rfl⟩, HB5.out⟩
  · rw [if_neg hc1] at hq
    subst hq
    go_wp2_with (first
      | ((with_reducible refine atLd 31 ?_); refine wp_loadB (c := (spL true c (.slice (some ⟨b, o + 1, none⟩) G.length (cap - 1)) N).toArray) HI.out uSp HK1.out _ (by rfl) (by rfl) (by rfl) ?_)
      | ((with_reducible refine atSt 31 ?_); refine wp_storeB (c := (spL true c (.slice (some ⟨b, o + 1, none⟩) G.length (cap - 1)) N).toArray) HI.out HSz.out HOn.out HK2.out _ _ (by rfl) (by rfl) (by rfl) (by rfl) ?_; intro W5 hb5 ho5; have HF5 := hide hb5; have HB5 := hide (below_only1 HB.out ho5 HWn.out); clear hb5 ho5))
    refine ret_sp3 (c := (spL true c (.slice (some ⟨b, o + 1, none⟩) G.length (cap - 1)) N).toArray) HI.out uSp Tryz.results14 (by rfl) (by rfl) (by rfl) HF5.out ?_
    exact ⟨_, rfl, ⟨HFr.out.later HB5.out, _, rfl⟩, HB5.out⟩
/-- The document's space in memory, its row below T. -/
structure PQ (wr : World) (b n : Nat) (F : List Nat) (p : Option Addr) (c T : Nat) : Prop where
  pb : PB wr b n F p c
  lt : 0 < F.length → ∃ bq o, p = some ⟨bq, o, none⟩ ∧ bq < T
theorem PB.pq {wr : World} {b n : Nat} {F : List Nat} {p : Option Addr} {c : Nat} (h : PB wr b n F p c) : PQ wr b n F p c wr.heap.size :=
  ⟨h, fun h0 => let ⟨bq, o, e, ⟨_, hc⟩, _⟩ := h.fr.2.2 h0; ⟨bq, o, e, hc.lt⟩⟩
theorem rtake_g (w : World) (b n : Nat) {F : List Nat} {p : Option Addr} {c T : Nat} (h : PQ w b n F p c T) (hF : F.length ≤ 5000) (hn : F = [] → n < 4096) : Calls Tryz.prog 14 #[.agg (spL true (n : Int) (.slice p F.length c) zN).toArray] w fun e w' => ∃ p' c', e = .returned (.tuple #[.agg (spL true ((n + (1 - F.length) : Nat) : Int) (.slice p' F.tail.length c') zN).toArray, .int .i64 (tkAt n F 0 : Int), .int .i64 0]) ∧ (FrP w' p' c' F.tail ∧ (0 < F.tail.length → ∃ bq o, p' = some ⟨bq, o, none⟩ ∧ bq < T)) ∧ Below w.heap.size w w' := by
  cases F with
  | nil =>
    refine (rtake_more w n p c zN (hn rfl)).mono ?_
    rintro e w' ⟨rfl, hb⟩
    exact ⟨p, c, by simp [tkAt], ⟨h.pb.fr.later hb, fun h0 => by simp at h0⟩, hb⟩
  | cons g G =>
    obtain ⟨bq, o, rfl, hlt⟩ := h.lt (by simp)
    refine (rtake_some2 w (n : Int) bq o c g G zN h.pb.fr (by simp at hF; omega)).mono ?_
    rintro e w' ⟨p', rfl, ⟨hf, o', rfl⟩, hb⟩
    refine ⟨_, _, ?_, ⟨hf, fun _ => ⟨bq, o', rfl, hlt⟩⟩, hb⟩
    rw [show n + (1 - (g :: G).length) = n by simp]
    simp [tkAt]
end Go.Proofs.YthgclfhfipfknaaGreat

namespace Go.Proofs.YthgclfhfipfknaaGreat
variable {sv : Value}
open Go.ChangeShapes Go.WideShapes Go.ChangeAt Go.RowKit Go.Maps
set_option linter.unusedVariables false

/-- A payload was refused. -/
theorem PT.bad {sv' : Value} {w wr w' : World} {t pm base n : Nat} {P P' : Nat → List UInt8} {K K' : Nat} {F : List Nat} {Ks : List Kt} {m : Nat} {s : ByteArray} {x : Kd} (h : PT sv w wr t pm base n P K F Ks m) (hp : PvE sv' wr w' w.heap.size t pm n base P K F s x P' K') (h4 : 4000 < s.size) : PT sv' w w' t pm base n P' K' F Ks (m + 1) := by
  have hG := hp.kp.bad h4
  have hsp := hp.sp
  rw [hG, List.length_nil, show n + (0 - F.length) = n by omega, List.drop_zero] at hsp
  refine ⟨hsp, hp.ss, h.bel.trans hp.kb.bel, by have := h.k3; have := hp.k5; omega, by have := h.n17; omega, fun k hk => ⟨(h.kp k hk).1.same (fun g hg => ?_) (Nat.le_refl _), (h.kp k hk).2⟩, h.nd, h.bd, ⟨h.bs.1, h.bs.2.1, h.bs.2.2.1, Nat.le_trans h.bs.2.2.2 hp.kb.bel.size⟩⟩
  have hb := h.bd g (List.mem_flatMap.2 ⟨k, hk, hg⟩)
  exact hp.oth g hb.1 hb.2 (by rw [hG]; simp)
theorem FrP.lo {w w' : World} {p : Option Addr} {c : Nat} {G : List Nat} {T : Nat} (h : FrP w p c G) (lt : 0 < G.length → ∃ bq o, p = some ⟨bq, o, none⟩ ∧ bq < T) {X : List Nat} (ho : Only X w w') (hX : ∀ x ∈ X, T ≤ x) : FrP w' p c G :=
  ⟨h.1, h.2.1, fun h0 => by
    obtain ⟨bq, o, e, hl⟩ := lt h0
    obtain ⟨b', o', e', ⟨cc, hc⟩, g⟩ := h.2.2 h0
    have e2 : b' = bq := by rw [e] at e'; cases e'; rfl
    subst e2
    have hc' := hc.only ho (fun hm => by have := hX _ hm; omega)
    exact ⟨b', o', e', ⟨cc, hc'⟩, fun j x hj => by rw [hc'.cell]; have := g j x hj; rwa [hc.cell] at this⟩⟩
/-- So many pages were taken as the document has it, and so many lie in the row. -/
structure TL (w5 wr : World) (b n : Nat) (F : List Nat) (pl : ByteArray) (j i : Nat) (pp : Option Addr) (cp : Nat) (pq : Option Addr) (cq : Nat) : Prop where
  on : Only [b] w5 wr
  pq : PQ wr b (n + (j - F.length)) (F.drop j) pq cq w5.heap.size
  one : Blk wr w5.heap.size (kdA ⟨#[]⟩ pl pp i cp) 38
  row : wr.ownsRow (w5.heap.size + 1) 3 1 (.slice pp i cp) i (inL (tkL n F i))
  sz : w5.heap.size + 1 ≤ wr.heap.size
  bl : b < w5.heap.size
theorem TL.later {w5 wr w' : World} {b n : Nat} {F : List Nat} {pl : ByteArray} {j i : Nat} {pp : Option Addr} {cp : Nat} {pq : Option Addr} {cq : Nat} (h : TL w5 wr b n F pl j i pp cp pq cq) (hb : Below wr.heap.size wr w') : TL w5 w' b n F pl j i pp cp pq cq :=
  ⟨h.on.then_below hb, ⟨h.pq.pb.later hb, h.pq.lt⟩, h.one.later hb, own_only2 h.row (Only.of_below (S := []) hb) (by simp), Nat.le_trans h.sz hb.size, h.bl⟩
theorem tl_start {w5 W6 : World} {b n : Nat} {F : List Nat} {pl : ByteArray} {pq : Option Addr} {cq : Nat} (hB : PB w5 b n F pq cq) (hb : Below w5.heap.size w5 W6) (ho : Blk W6 w5.heap.size (kdA ⟨#[]⟩ pl none 0 0) 38) : TL w5 W6 b n F pl 0 0 none 0 pq cq :=
  ⟨Only.of_below hb, ⟨by rw [show n + (0 - F.length) = n by omega, List.drop_zero]; exact hB.later hb, by rw [List.drop_zero]; exact hB.pq.lt⟩, ho, World.ownsRow_nil _ _ _ _, ho.lt, hB.sB.lt⟩
/-- The space is written anew. -/
theorem TL.space {w5 wr W7 W8 : World} {b n : Nat} {F : List Nat} {pl : ByteArray} {j : Nat} {pp : Option Addr} {cp : Nat} {pq : Option Addr} {cq : Nat} {p' : Option Addr} {c' : Nat} (h : TL w5 wr b n F pl j j pp cp pq cq) (hb : Below wr.heap.size wr W7) (hf : FrP W7 p' c' (F.drop (j + 1))) (hl : 0 < (F.drop (j + 1)).length → ∃ bq o, p' = some ⟨bq, o, none⟩ ∧ bq < w5.heap.size) (hs : SpB W8 b true ((n + (j + 1 - F.length) : Nat) : Int) (.slice p' (F.drop (j + 1)).length c') zN) (ho : Only [b] W7 W8) : TL w5 W8 b n F pl (j + 1) j pp cp p' c' := by
  have h7 := h.later hb
  have hS7 := h7.pq.pb.sB
  refine ⟨h7.on.trans ho, ⟨⟨hs, hf.only ho (fun q hq c hc => by have e : q = b := (by simpa using hq); subst e; exact blk_ne hc hS7 (by decide) rfl)⟩, hl⟩, h7.one.only ho (by have := h.bl; simp; omega), own_only2 h7.row ho (fun g hg hm => ?_), Nat.le_trans h7.sz ho.size, h.bl⟩
  have e : g = b := by simpa using hm
  subst e
  have := (ownC_blk h7.row hg).1
  have := h.bl
  omega
theorem only_cell {V V' : World} {X : List Nat} (ho : Only X V V') {b o : Nat} {v : Value} (h : V.cell? ⟨b, o, none⟩ = some v) (hn : b ∉ X) : V'.cell? ⟨b, o, none⟩ = some v := by
  have hb : b < V.heap.size := by
    rcases Nat.lt_or_ge b V.heap.size with h' | h'
    · exact h'
    · simp [World.cell?, Array.getElem?_eq_none h'] at h
  exact (World.cell?_of_block (a := ⟨b, o, none⟩) (ho.block b hb hn)).trans h
/-- The page's number comes behind the row. -/
theorem TL.app {w5 W w10 : World} {b n : Nat} {F : List Nat} {pl : ByteArray} {j : Nat} {pp : Option Addr} {cp : Nat} {pq : Option Addr} {cq : Nat} {v' : Value} (h : TL w5 W b n F pl (j + 1) j pp cp pq cq) (ho : w10.ownsRow (w5.heap.size + 1) 3 1 v' (j + 1) (inL (tkL n F j) ++ [.int .i64 (tkAt n F j : Int)])) (hg : W.grownBy w10 (Value.slice pp j cp).ownBlock) :
    ∃ g c, v' = .slice (some ⟨g, 0, none⟩) (j + 1) c ∧ w10.cell? ⟨w5.heap.size, 2, none⟩ = some (.slice pp j cp) ∧ w10.frozen? ⟨w5.heap.size, 2, none⟩ = false ∧ TL w5 (w10.setCell ⟨w5.heap.size, 2, none⟩ (.slice (some ⟨g, 0, none⟩) (j + 1) c)) b n F pl (j + 1) (j + 1) (some ⟨g, 0, none⟩) c pq cq ∧ (w10.setCell ⟨w5.heap.size, 2, none⟩ (.slice (some ⟨g, 0, none⟩) (j + 1) c)).cell? ⟨w5.heap.size, 2, none⟩ = some (.slice (some ⟨g, 0, none⟩) (j + 1) c) ∧ (w10.setCell ⟨w5.heap.size, 2, none⟩ (.slice (some ⟨g, 0, none⟩) (j + 1) c)).cell? ⟨g, 0, none⟩ = some (.int .i64 (tkAt n F 0 : Int)) := by
  have e : inL (tkL n F j) ++ [.int .i64 (tkAt n F j : Int)] = inL (tkL n F (j + 1)) := by rw [tkL_succ]; simp [inL]
  rw [e] at ho
  rcases ho.2 with ⟨hv, h0⟩ | ⟨g, c, cur, hv, hgB, hh, hn, hm, hs, ht⟩
  · omega
  · have oX := Only.of_grown hg
    have hX : ∀ x ∈ (Value.slice pp j cp).ownBlock.toList, w5.heap.size + 1 ≤ x := fun x hx => by
      have e : (Value.slice pp j cp).ownBlock = some x := by simpa using hx
      exact (ownC_blk h.row e).1
    have h1 := h.one.only oX (fun hm => by have := hX _ hm; omega)
    have gne : g ≠ w5.heap.size := by omega
    have o2 := Only.setCell w10 ⟨w5.heap.size, 2, none⟩ (.slice (some ⟨g, 0, none⟩) (j + 1) c)
    have bl := h.bl
    have k1 : Blk (w10.setCell ⟨w5.heap.size, 2, none⟩ (.slice (some ⟨g, 0, none⟩) (j + 1) c)) w5.heap.size (kdA ⟨#[]⟩ pl (some ⟨g, 0, none⟩) (j + 1) c) 38 := h1.set 2 _
    have hc0 : w10.cell? ⟨g, 0, none⟩ = some (.int .i64 (tkAt n F 0 : Int)) := by
      rw [Lib.cell_of_heap hh]
      have e : cur[0]? = (cur.toList.take ((j + 1) * 1))[0]? := by rw [List.getElem?_take_of_lt (by omega)]; simp
      rw [e, ht]
      simp [inL, tkL, List.range_succ_eq_map]
    refine ⟨g, c, hv, h1.cell 2, h1.frozen 2, ⟨?_, ⟨⟨?_, ?_⟩, h.pq.lt⟩, k1, ?_, ?_, bl⟩, k1.cell 2, only_cell o2 hc0 (by simp; omega)⟩
    · refine (h.on.andThen oX (fun x hx => .inr (by have := hX _ hx; omega))).andThen o2 (fun x hx => .inr ?_)
      have e : x = w5.heap.size := by simpa using hx
      omega
    · have hb1 := Blk.only h.pq.pb.sB oX (fun hm => by have := hX _ hm; omega)
      exact Blk.only hb1 o2 (by simp; omega)
    · exact (h.pq.pb.fr.lo h.pq.lt oX (fun x hx => by have := hX _ hx; omega)).lo h.pq.lt o2 (fun x hx => by have e : x = w5.heap.size := (by simpa using hx); omega)
    · rw [hv] at ho
      exact own_only2 ho o2 (fun g' hg' hm => by
        have e : g' = w5.heap.size := by simpa using hm
        have := (ownC_blk ho hg').1
        omega)
    · have := h.sz; have := oX.size; have := o2.size; omega
theorem atBsK (t : TypeId) {P : Program} {ops : Array Oper} {Q : Exit → Act → World → Prop} {d : Option Tmp} {n : Nat} {x : Array (Nat × Operand)} {ty : TypeId} {pos : String} {af : Array Edge} {gd : Option (Nat × Bool)} {rest : List Oper} {a : Act} {w : World} (h : wpList P ops Q ({ dst := d, op := .buildSlice t n x, type := ty, pos := pos, after := af, guard := gd } :: rest) a w) : wpList P ops Q ({ dst := d, op := .buildSlice t n x, type := ty, pos := pos, after := af, guard := gd } :: rest) a w := h
theorem kt_zero : ∃ i, Tryz.prog.info? 38 = some i ∧ i.zero = some (.agg #[.string ⟨#[]⟩, .string ⟨#[]⟩, .slice none 0 0]) ∧ i.size = 3 := by
  have h : (Tryz.prog.info? 38).map (fun i => (i.zero, i.size)) = some (some (.agg #[.string ⟨#[]⟩, .string ⟨#[]⟩, .slice none 0 0]), 3) := by kernel_rfl
  obtain ⟨i, h1, h2⟩ := Option.map_eq_some_iff.1 h
  simp only [Prod.mk.injEq] at h2
  exact ⟨i, h1, h2.1, h2.2⟩
theorem kt_fill (k : Kt) : Instr.fill (fun i => some (i * 3, 3)) ((Array.range (1 * 3)).map ((Value.agg #[.string ⟨#[]⟩, .string ⟨#[]⟩, .slice none 0 0]).cells[· % (Value.agg #[.string ⟨#[]⟩, .string ⟨#[]⟩, .slice none 0 0]).cells.size]!)) [(0, Value.agg (ktL k).toArray)] = some (ktL k).toArray := by
  kernel_rfl
/-- A row of one payload is made. -/
theorem wp_bsK {ops : Array Oper} {rest : List Oper} {o : Oper} {a : Act} {Q : Exit → Act → World → Prop} {w : World} (m : Kt) (x : Operand) (hg : o.guard = none) (ho : o.op = .buildSlice 32 1 #[(0, x)]) (hx : a.eval x = .agg (ktL m).toArray)
    (hk : wpList Tryz.prog ops Q rest (a.put o.dst (.slice (some ⟨w.heap.size, 0, none⟩) 1 1)) (w.alloc (.cells (ktL m).toArray 38))) : wpList Tryz.prog ops Q (o :: rest) a w := by
  obtain ⟨i, hi, hz, hs⟩ := kt_zero
  refine wpList_buildSlice hg 32 38 1 _ ho (ktL m).toArray i _ Tryz.underlying32 hi hz (by rw [hs]; decide) (by rw [hs]; decide) ?_ hk
  rw [hs]
  have e : (#[(0, x)].map fun (y : Nat × Operand) => (y.1, a.eval y.2)).toList = [(0, Value.agg (ktL m).toArray)] := by simp [hx]
  rw [e]
  exact kt_fill m
/-- A payload is appended to a row that is owned. -/
theorem wp_appK {ops : Array Oper} {rest : List Oper} {o : Oper} {a : Act} {Q : Exit → Act → World → Prop} {W : World} {base n : Nat} {v : Value} {xs : List Value} (m : Kt) (hown : (W.alloc (.cells (ktL m).toArray 38)).ownsRow base 38 3 v n xs) (hn : n ≤ 1000) (hbase : base ≤ (W.alloc (.cells (ktL m).toArray 38)).heap.size) (s z : Operand)
    (hgd : o.guard = none) (ho : o.op = .call { callee := .builtin .append, args := #[s, z], argTypes := #[32, 32] }) (hs : a.eval s = v) (hz : a.eval z = .slice (some ⟨W.heap.size, 0, none⟩) 1 1)
    (hk : ∀ v' w', w'.ownsRow base 38 3 v' (n + 1) (xs ++ ktL m) → (W.alloc (.cells (ktL m).toArray 38)).grownBy w' v.ownBlock → wpList Tryz.prog ops Q rest (a.put o.dst v') w') : wpList Tryz.prog ops Q (o :: rest) a (W.alloc (.cells (ktL m).toArray 38)) := by
  obtain ⟨i, zv, hi, hz0, hsz, hzs, hby⟩ := kt_info
  have hnews : ∀ j u, (ktL m)[j]? = some u → (W.alloc (.cells (ktL m).toArray 38)).cell? ((⟨W.heap.size, 0, none⟩ : Addr).add j) = some u := fun j u hj => by
    rw [show (⟨W.heap.size, 0, none⟩ : Addr).add j = ⟨W.heap.size, j, none⟩ by unfold Addr.add; split <;> simp_all]
    have hb : Blk (W.alloc (.cells (ktL m).toArray 38)) W.heap.size (ktL m).toArray 38 := Blk.new _ _ _
    rw [hb.cell]; simpa using hj
  exact wpList_append_own_at _ hgd s z 32 ho base 38 i zv 3 i.bytes Tryz.underlying32 hi hz0 hsz rfl hzs (by omega) v n xs hs hown ⟨W.heap.size, 0, none⟩ 1 1 (ktL m) hz rfl hnews (ktL_one m) (by simp only [maxLen]; omega) (Nat.le_trans (Nat.mul_le_mul (show n + 1 ≤ 1001 by omega) hby) (by decide)) hbase (fun v' w' h2 h3 h4 h5 => hk v' w' h2 h3)
end Go.Proofs.YthgclfhfipfknaaGreat

namespace Go.Proofs.YthgclfhfipfknaaGreat
open Go.ChangeShapes Go.WideShapes Go.ChangeAt Go.RowKit Go.Maps
set_option linter.unusedVariables false

/-- A row of steps that came in, with room behind its texts. -/
def OpR (w : World) (p : Option Addr) (len : Nat) (D : Nat → Bool) (N : Nat → Int) (B : Nat → Nat) (S : Nat → ByteArray) : Prop := 0 < len → ∃ b o, p = some ⟨b, o, none⟩ ∧ ∀ i, i < len → (∀ j v, (opA (D i) (N i) (B i) (S i)).toList[j]? = some v → w.cell? ⟨b, o + i * 4 + j, none⟩ = some v) ∧ B i < 256 ∧ (S i).size ≤ 140737488351232
theorem op_one (d : Bool) (N : Int) (B : Nat) (s : ByteArray) : (#[Value.bool d, .int .i64 N, .int .u8 (B : Int), .string s]).all (·.oneCell') = true := all_oneCell_toArray (cs := [Value.bool d, .int .i64 N, .int .u8 (B : Int), .string s]) (by intro v hv; simp at hv; rcases hv with rfl | rfl | rfl | rfl <;> rfl)
theorem opI (d : Bool) (N : Int) (B : Nat) (s : ByteArray) : (Tryz.prog.info? 34).map (·.size) = some (#[Value.bool d, .int .i64 N, .int .u8 (B : Int), .string s]).size := by
  show _ = some 4
  kernel_rfl
theorem pt_start {w w1 : World} {t pm : Nat} (h : Ld (.slice none 0 0) w1 t pm 1 (upP zPg 1 (firstL 0 zN)) 1 0 zN) (hb : Below w.heap.size w w1) (h1 : w.heap.size ≤ t) (h2 : w.heap.size ≤ pm) : PT (.slice none 0 0) w w1 t pm w1.heap.size 1 (upP zPg 1 (firstL 0 zN)) 1 [] [] 0 :=
  ⟨⟨h, .nil, List.nodup_nil⟩, nilSv _ _ _, hb, by omega, by omega, by simp, by simp, by simp, ⟨h1, h2, hb.size, Nat.le_refl _⟩⟩
theorem pb_start {W : World} {b : Nat} (h : SpB W b true 1 (.slice none 0 0) zN) : PB W b 1 [] none 0 := ⟨h, ⟨by simp, fun _ => ⟨rfl, rfl⟩, fun h => by simp at h⟩⟩
theorem zSpB (w : World) : Blk (w.alloc (.cells (spL false 0 (.slice none 0 0) zN).toArray 31)) w.heap.size (spL false 0 (.slice none 0 0) zN).toArray 31 := Blk.new _ _ _
/-- Between two steps. -/
def St (w wr : World) (t pm base b k : Nat) (v6 : Value) : Prop := ∃ sv n P K F Ks pF cF, PT sv w wr t pm base n P K F Ks k ∧ PB wr b n F pF cF ∧ PR wr base v6 Ks ∧ Ks.length ≤ k ∧ F.length ≤ 17 * k
def fst1 (n : Nat) (F : List Nat) (j : Nat) : Int := if j = 0 then 0 else (tkAt n F 0 : Int)
theorem fst1_s (n : Nat) (F : List Nat) (j : Nat) : fst1 n F (j + 1) = (tkAt n F 0 : Int) := by simp [fst1]
/-- A payload that was put in comes behind the row. -/
theorem st_put {sv5 : Value} {w w5 wq w8 : World} {t pm base b n k : Nat} {P5 : Nat → List UInt8} {K5 : Nat} {F : List Nat} {Ks : List Kt} {v : Value} {pl : ByteArray} {x : Kd} {pp : Option Addr} {cp : Nat} {pq : Option Addr} {cq : Nat}
    (hT : PT sv5 w w5 t pm base (n + (x.G.length - F.length)) P5 K5 (F.drop x.G.length) (Ks ++ [⟨pl, x, pp, cp⟩]) (k + 1)) (hR : PR w5 base v Ks) (hb : w.heap.size ≤ b) (hSb : ∃ c, Blk w5 b c 31) (hL : TL w5 wq b n F pl x.G.length x.G.length pp cp pq cq) (hG : x.G = tkL n F x.G.length) (h8 : Below wq.heap.size wq w8) (hk : Ks.length ≤ k) (hF : F.length ≤ 17 * k) :
    Blk (w8.setCell ⟨w5.heap.size, 0, none⟩ (.string x.st)) w5.heap.size (ktL ⟨pl, x, pp, cp⟩).toArray 38 ∧
    (∀ V, Below (w8.setCell ⟨w5.heap.size, 0, none⟩ (.string x.st)).heap.size (w8.setCell ⟨w5.heap.size, 0, none⟩ (.string x.st)) V → PR V base v Ks ∧ base ≤ V.heap.size ∧ ∀ v2 w11, w11.ownsRow base 38 3 v2 (Ks.length + 1) (Ks.flatMap ktL ++ ktL ⟨pl, x, pp, cp⟩) → V.grownBy w11 v.ownBlock → St w w11 t pm base b (k + 1) v2) := by
  have hL8 := hL.later h8
  have o9 := Only.setCell w8 ⟨w5.heap.size, 0, none⟩ (.string x.st)
  have k9 : Blk (w8.setCell ⟨w5.heap.size, 0, none⟩ (.string x.st)) w5.heap.size (ktL ⟨pl, x, pp, cp⟩).toArray 38 := hL8.one.set 0 (.string x.st)
  have hO : Only [b] w5 (w8.setCell ⟨w5.heap.size, 0, none⟩ (.string x.st)) := hL8.on.andThen o9 (fun q hq => .inr (by have e : q = w5.heap.size := (by simpa using hq); omega))
  have hB9 := hL8.pq.pb.only o9 (fun q hq => by have e : q = w5.heap.size := (by simpa using hq); subst e; exact ⟨_, _, hL8.one, by decide, by decide⟩)
  have hr9 := own_only2 hL8.row o9 (fun g hg hm => by have e : g = w5.heap.size := (by simpa using hm); have := (ownC_blk hL8.row hg).1; omega)
  obtain ⟨cS, hSb⟩ := hSb
  refine ⟨k9, fun V hV => ?_⟩
  have hOV := hO.then_below hV
  have hRV := hR.only hOV (fun q hq => by have e : q = b := (by simpa using hq); subst e; exact ⟨_, _, hSb, by decide, by decide⟩)
  have hTV := hT.only hOV (fun q hq => by have e : q = b := (by simpa using hq); subst e; exact ⟨hb, _, _, hSb, by unfold Ot; decide, by decide⟩)
  have hBV := hB9.later hV
  have hrV := own_only2 hr9 (Only.of_below (S := []) hV) (by simp)
  have hfV : FrP V pp cp x.G := by
    rw [← hG] at hrV
    exact frp_own (n := 0) hrV
  refine ⟨hRV, hTV.bs.2.2.2, fun v2 w11 ho hg => ?_⟩
  have oX := Only.of_grown hg
  have hX : ∀ q ∈ v.ownBlock.toList, base ≤ q ∧ ∃ c, Blk V q c 38 := fun q hq => by
    have e : v.ownBlock = some q := by simpa using hq
    exact ownC_blk hRV.row e
  have hbs := hTV.bs
  exact ⟨sv5, _, P5, K5, _, _, pq, cq, hTV.only oX (fun q hq => let ⟨h1, c, hc⟩ := hX q hq; ⟨by omega, c, _, hc, by unfold Ot; decide, by decide⟩), hBV.only oX (fun q hq => let ⟨h1, c, hc⟩ := hX q hq; ⟨c, _, hc, by decide, by decide⟩), hRV.app (k := ⟨pl, x, pp, cp⟩) ho hg hfV, by rw [List.length_append, List.length_singleton]; omega, by rw [List.length_drop]; omega⟩
theorem nodup_le : ∀ (n : Nat) (G : List Nat), G.Nodup → (∀ g ∈ G, 2 ≤ g ∧ g ≤ n) → G.length ≤ n - 1
  | 0, G, _, h => by
    cases G with
    | nil => simp
    | cons g G => have := h g (by simp); omega
  | n + 1, G, hnd, h => by
    by_cases hm : n + 1 ∈ G
    · have ih := nodup_le n (G.erase (n + 1)) (hnd.erase _) (fun g hg => by
        have h1 := h g (List.mem_of_mem_erase hg)
        have h2 : g ≠ n + 1 := fun e => by
          subst e
          exact (List.Nodup.not_mem_erase hnd) hg
        omega)
      rw [List.length_erase_of_mem hm] at ih
      have := h _ hm
      omega
    · have ih := nodup_le n G hnd (fun g hg => by
        have h1 := h g hg
        have h2 : g ≠ n + 1 := fun e => hm (e ▸ hg)
        omega)
      omega
theorem free_pt {sv : Value} {w wr : World} {t pm base n : Nat} {P : Nat → List UInt8} {K : Nat} {F : List Nat} {Ks : List Kt} {m : Nat} (h : PT sv w wr t pm base n P K F Ks m) : Calls Tryz.prog 17 #[.pointer (some ⟨t, 0, none⟩)] wr fun e w' => ∃ p c, e = .returned (.tuple #[.slice p F.length c, .int .i64 0]) ∧ Below wr.heap.size wr w' := by
  have hf := free_e wr t pm n h.sp.ld
  rw [h.sp.ch.free (n - 1) (nodup_le n F h.sp.nd h.sp.ch.all)] at hf
  refine hf.mono ?_
  rintro e w' ⟨v, rfl, ho, hb⟩
  obtain ⟨p, c, rfl⟩ := own_form ho
  exact ⟨p, c, rfl, hb⟩
theorem step_loadB {ops : Array Oper} {o : Oper} {a : Act} {w : World} {K : Act → World → Prop} {Q : Exit → Act → World → Prop} {E : Prop} {g : Nat} {t : TypeId} {c : Array Value} (hi : (Tryz.prog.info? t).map (·.size) = some c.size) (hu : ∃ d, Tryz.prog.underlying t = some d ∧ d.isRow = true) (hg : Blk w g c t) (x : Operand)
    (hgd : o.guard = none) (ho : o.op = .load t x) (hx : a.eval x = .pointer (some ⟨g, 0, none⟩)) (h : K (a.put o.dst (.agg c)) w) : if Region.wanted o (yielded ops a.tmps) = true then Oper.wp Tryz.prog o a w K Q else E := by
  have hw : Region.wanted o (yielded ops a.tmps) = true := by simp [Region.wanted, hgd]
  rw [if_pos hw]
  obtain ⟨d, hd, hr⟩ := hu
  exact wp_load_mid t x ho g 0 hx c.toList d hg.range hd hr (by simpa using hi) (by simpa using h)
end Go.Proofs.YthgclfhfipfknaaGreat
