/- Package spill: find, Get and Pages, of any text over any pages. -/
/- Package spill: a payload without a chain is put in. -/
import Derived.Test.YthgclfhfipfknaaGreatPMF
import Derived.Test.YthgclfhfipfknaaGreatOI
namespace Go.Proofs.YthgclfhfipfknaaGreat
variable {sv : Value}
open Go.ChangeShapes Go.WideShapes Go.ChangeAt Go.RowKit Go.Maps
set_option linter.unusedVariables false

open Classical in
noncomputable def foundR (P : Nat → List UInt8) (m : Nat) (s : ByteArray) : Option (List UInt8 × List Nat) := if rdOk s then fdR P m s else none
set_option maxRecDepth 20000 in
set_option maxHeartbeats 1000000 in
theorem find_bad (w : World) (t pm m : Nat) {P : Nat → List UInt8} {K : Nat} {wr : Bool} (h : Tr sv w t pm m P K wr) (s : ByteArray) (hs : s.size ≤ 140737488355328) (hok : ¬ rdOk s) :
    Calls Tryz.prog 37 #[.pointer (some ⟨t, 0, none⟩), .string s] w fun e w' => e = .returned (.tuple #[.agg (kpA ⟨#[]⟩ 0 none 0 0), .int .i64 8]) ∧ Below w.heap.size w w' := by
  have HM := hide (fun X (hb : Below w.heap.size w X) => pmayRead_e X _ zs zs_length 4 (h.later hb).mayR)
  have HR := hide (fun X => read_bad X s hs hok)
  have HI0 := hide (sizeK ⟨#[]⟩ 0 none 0 0)
  have HJ0 := hide (sizeS 0 ⟨#[]⟩ 0)
  have HK0 := hide (kp_new w)
  have HB0 := hide (below_alloc w (.cells #[.string ⟨#[]⟩, .int .i64 0, .slice none 0 0] 79))
  clear h hok
  go_enter Tryz.func37, Tryz.ntmps37
  go_wp2
  go_step3
  go_wp2_with (first
    | (go_at_call 98; (with_reducible refine Calls.mono (HM.out _ HB0.out) ?_); rintro e w4 ⟨rfl, hb⟩; rw [show unN 4 = 0 by rfl]; have HB4 := hide (below_trans HB0.out hb); have HK4 := hide (Blk.later HK0.out hb); clear hb)
    | (go_at_call 99; (with_reducible refine Calls.mono (HR.out _) ?_); rintro e w5 ⟨rfl, hb⟩; have HB5 := hide (below_trans (below_trans HB4.out hb) (below_alloc w5 (.cells #[.int .i64 0, .string ⟨#[]⟩, .int .i64 0] 90))); have HK5 := hide (Blk.later (Blk.later HK4.out hb) (below_alloc w5 (.cells #[.int .i64 0, .string ⟨#[]⟩, .int .i64 0] 90))); have HS5 := hide (st_new w5); have HZ5 := hide (show w.heap.size < w5.heap.size from Nat.lt_of_lt_of_le (Blk.later HK4.out hb).lt (Nat.le_refl _)); clear hb)
    | ((with_reducible refine atSt 90 ?_); refine wp_storeB (c := stA 0 ⟨#[]⟩ 0) HJ0.out rfl (st_one _ _ _) HS5.out _ _ (by rfl) (by rfl) (by rfl) (by rfl) ?_; intro W6 hb6 ho6; have HK6 := hide (Blk.only HK5.out ho6 (by have := HZ5.out; simp; omega)); have HB6 := hide (below_only1 HB5.out ho6 (Nat.le_of_lt HZ5.out)); clear hb6 ho6)
    | ((with_reducible refine atSt 79 ?_); refine wp_storeB (c := kpA ⟨#[]⟩ 0 none 0 0) HI0.out rfl (kp_one _ _ _ _ _) HK6.out _ _ (by rfl) (by rfl) (by rfl) (by rfl) ?_; intro W7 hb7 ho7; have HK7 := hide hb7; have HB7 := hide (below_only1 HB6.out ho7 (Nat.le_refl _)); clear hb7 ho7))
  rw [Exit.noGoto_ret]
  refine ret_blk2 (c := kpA ⟨#[]⟩ 0 none 0 0) HI0.out uK Tryz.results37 (by rfl) (by rfl) HK7.out ?_
  exact ⟨rfl, HB7.out⟩
theorem find_any (w : World) (t pm m : Nat) {P : Nat → List UInt8} {K : Nat} {wr : Bool} (h : Tr sv w t pm m P K wr) (s : ByteArray) (hs : s.size ≤ 140737488355328) :
    Calls Tryz.prog 37 #[.pointer (some ⟨t, 0, none⟩), .string s] w fun e w' => FdW w (rdSz s) e w' (foundR P m s) := by
  unfold foundR
  by_cases hok : rdOk s
  · rw [if_pos hok]; exact find_some w t pm m h s hs hok
  · rw [if_neg hok]; exact find_bad w t pm m h s hs hok
/-- What Get answers. -/
def GtW (w : World) (z : Nat) (e : Ending) (w' : World) : Option (List UInt8 × List Nat) → Prop
  | none => e = .returned (.tuple #[.string ⟨#[]⟩, .int .i64 0, .int .i64 8]) ∧ Below w.heap.size w w'
  | some (d, G) => e = .returned (.tuple #[.string ⟨d.toArray⟩, .int .i64 (z : Int), .int .i64 0]) ∧ Below w.heap.size w w'
/-- What Pages answers. -/
def PsW (w : World) (e : Ending) (w' : World) : Option (List UInt8 × List Nat) → Prop
  | none => e = .returned (.tuple #[.slice none 0 0, .int .i64 8]) ∧ Below w.heap.size w w'
  | some (d, G) => ∃ p c, e = .returned (.tuple #[.slice p G.length c, .int .i64 0]) ∧ w'.ownsRow w.heap.size 3 1 (.slice p G.length c) G.length (inL G) ∧ Below w.heap.size w w'
set_option maxRecDepth 20000 in
theorem pget_any (w : World) (v : Option Addr) (s : ByteArray) (z : Nat) (R : Option (List UInt8 × List Nat)) (h : Calls Tryz.prog 37 #[.pointer v, .string s] w fun e w' => FdW w z e w' R) : Calls Tryz.prog 19 #[.pointer v, .string s] w fun e w' => GtW w z e w' R := by
  cases R with
  | none => exact pget_e w v s ⟨#[]⟩ 0 none 0 0 8 h
  | some r =>
    obtain ⟨d, G⟩ := r
    have HF := hide h
    have HI0 := hide (fun p c => sizeK ⟨d.toArray⟩ (z : Int) p G.length c)
    clear h
    go_enter Tryz.func19, Tryz.ntmps19
    go_wp2_with (first
      | (go_at_call 37; (with_reducible refine Calls.mono HF.out ?_); rintro e w4 ⟨p, c, rfl, ho, hb⟩; have HS4 := hide hb.size; have HB4 := hide (below_trans hb (below_alloc w4 (.cells #[.string ⟨#[]⟩, .int .i64 0, .slice none 0 0] 79))); have HK4 := hide (kp_new w4); clear hb ho)
      | ((with_reducible refine atSt 79 ?_); refine wp_storeB (c := kpA ⟨d.toArray⟩ (z : Int) p G.length c) (z := kpA ⟨#[]⟩ 0 none 0 0) (HI0.out p c) rfl (kp_one _ _ _ _ _) HK4.out _ _ (by rfl) (by rfl) (by rfl) (by rfl) ?_; intro W6 hb6 ho6; obtain ⟨k0, k1, k2⟩ := kp_cells hb6; have HB6 := hide (below_only1 HB4.out ho6 HS4.out); clear hb6 ho6))
    go_region
    go_wp2
    go_returns
    exact ⟨rfl, HB6.out.drew⟩
set_option maxRecDepth 20000 in
theorem ppages_any (w : World) (v : Option Addr) (s : ByteArray) (z : Nat) (R : Option (List UInt8 × List Nat)) (h : Calls Tryz.prog 37 #[.pointer v, .string s] w fun e w' => FdW w z e w' R) : Calls Tryz.prog 21 #[.pointer v, .string s] w fun e w' => PsW w e w' R := by
  cases R with
  | none => exact ppages_e w v s ⟨#[]⟩ 0 none 0 0 8 h
  | some r =>
    obtain ⟨d, G⟩ := r
    have HF := hide h
    have HI0 := hide (fun p c => sizeK ⟨d.toArray⟩ (z : Int) p G.length c)
    clear h
    go_enter Tryz.func21, Tryz.ntmps21
    go_wp2_with (first
      | (go_at_call 37; (with_reducible refine Calls.mono HF.out ?_); rintro e w4 ⟨p, c, rfl, ho, hb⟩; have HS4 := hide hb.size; have HB4 := hide (below_trans hb (below_alloc w4 (.cells #[.string ⟨#[]⟩, .int .i64 0, .slice none 0 0] 79))); have HK4 := hide (kp_new w4); have HO4 := hide (own_same ho (fun g cs fz hg _ => (below_alloc w4 (.cells #[.string ⟨#[]⟩, .int .i64 0, .slice none 0 0] 79)).block g (Array.getElem?_eq_some_iff.1 hg).1)); clear hb ho)
      | ((with_reducible refine atSt 79 ?_); refine wp_storeB (c := kpA ⟨d.toArray⟩ (z : Int) p G.length c) (z := kpA ⟨#[]⟩ 0 none 0 0) (HI0.out p c) rfl (kp_one _ _ _ _ _) HK4.out _ _ (by rfl) (by rfl) (by rfl) (by rfl) ?_; intro W6 hb6 ho6; obtain ⟨k0, k1, k2⟩ := kp_cells hb6; have HB6 := hide (below_only1 HB4.out ho6 HS4.out); have HO6 := hide (own_same HO4.out (fun g cs fz hg _ => ho6.block g (Array.getElem?_eq_some_iff.1 hg).1 (fun hm => by have e1 : g = w4.heap.size := (by simpa using hm); subst e1; rw [show _ = _ from HK4.out] at hg; injection hg with e2; injection e2 with _ e3; exact absurd e3 (by decide)))); clear hb6 ho6))
    go_ret2
    exact ⟨p, c, rfl, HO6.out, HB6.out⟩
end Go.Proofs.YthgclfhfipfknaaGreat

namespace Go.Proofs.YthgclfhfipfknaaGreat
variable {sv : Value}
open Go.ChangeShapes Go.WideShapes Go.ChangeAt Go.RowKit Go.Maps
set_option linter.unusedVariables false

set_option maxRecDepth 20000 in
theorem cut_e (w : World) (s : ByteArray) (hs : s.size ≤ 40) : Calls Tryz.prog 43 #[.string s] w fun e w' => e = .returned (.tuple #[.agg (stA s.size s 0), .string ⟨#[]⟩]) ∧ Below w.heap.size w w' := by
  have l1 : min (s.size : Int) 40 = s.size := by omega
  have l2 : s.extract 0 s.size = s := by simp
  have l4 : ¬ (s.size : Int) < 0 := by omega
  have l5 : (s.size : Int) ≤ (s.size : Int) := by omega
  go_enter Tryz.func43, Tryz.ntmps43
  go_wp2
  go_region
  go_wp2
  go_returns
  exact ⟨rfl, (below_alloc _ _).drew⟩
set_option maxRecDepth 20000 in
theorem text_e (w : World) (n : Nat) (s : ByteArray) (hn : n ≤ 40) (hs : s.size = n) : Calls Tryz.prog 44 #[.agg (stA n s 0)] w fun e w' => e = .returned (.string (⟨(Rec.putL n).toArray⟩ ++ s)) ∧ Below w.heap.size w w' := by
  have HPt := hide (fun V => Rec.put_walk n (by omega) V)
  have HBh := hide (fun X => behind_e X n s 0 (by omega) (by omega))
  rw [show (n : Int) - s.size = 0 by omega] at HBh
  have hp : (Rec.putL n).length ≤ 9 := by rw [Rec.putL_length]; exact (Rec.vsz_pos n).2
  generalize Rec.putL n = l at *
  have hcat : ∀ V, (Op.stringOp BinOp.add ⟨l.toArray⟩ s).run Tryz.prog V = .ok (.string (⟨l.toArray⟩ ++ s)) V := fun V => run_string_add_sum V _ _ (by
    show l.toArray.size + s.size ≤ _
    rw [List.size_toArray]
    omega)
  have HB0 := hide (below_alloc w (.cells (stA n s 0) 90))
  have HC0 := hide (st_cells (Blk.drew (Blk.new w (stA n s 0) 90)))
  unfold stA at HBh HB0 HC0
  have lw : IntKind.u64.wrap (n : Int) = n := by rw [IntKind.wrap_u64]; omega
  unfold stA
  go_enter Tryz.func44, Tryz.ntmps44
  go_wp2
  go_region_held3 (fun V => V.cell? ⟨w.heap.size, 0, none⟩ = some (.int .i64 n) ∧ V.cell? ⟨w.heap.size, 1, none⟩ = some (.string s) ∧ V.cell? ⟨w.heap.size, 2, none⟩ = some (.int .i64 0)) (first | exact HC0.out | exact HC4.out) (first
    | (go_at_call 117; (with_reducible refine Calls.mono (HPt.out _) ?_); rintro e w4 ⟨rfl, hb⟩; have HC4 := hide (cells3_later hb HC0.out); have HB4 := hide (below_trans HB0.out.drew hb); clear hb))
  all_goals
    go_wp2_with (first
      | (go_at_call 101; (with_reducible refine Calls.mono (HBh.out _) ?_); rintro e w5 ⟨rfl, hb⟩; have HB5 := hide (below_trans HB4.out hb); clear hb))
    go_ret
    exact ⟨rfl, HB5.out⟩
theorem Tr.mayC {w : World} {t pm n : Nat} {P : Nat → List UInt8} {K : Nat} (h : Tr sv w t pm n P K true) : PtK w (some ⟨t, 0, none⟩) 0 zs 4 (fun w' => Below w.heap.size w w') := .out h (.inl (by omega))
set_option maxRecDepth 20000 in
theorem put_short (w : World) (t pm m : Nat) {P : Nat → List UInt8} {K : Nat} (h : Tr sv w t pm m P K true) (s : ByteArray) (hs : s.size ≤ 40) : Calls Tryz.prog 12 #[.pointer (some ⟨t, 0, none⟩), .string s] w fun e w' => e = .returned (.tuple #[.string (⟨(Rec.putL s.size).toArray⟩ ++ s), .int .i64 0]) ∧ Below w.heap.size w w' := by
  have HM := hide (pmayChange_e w _ 4 _ h.mayC)
  have HC := hide (fun X => cut_e X s hs)
  have HT := hide (fun X => text_e X s.size s hs rfl)
  have HJ0 := hide (sizeS s.size s 0)
  have l1 : ¬ (4000 : Int) < (s.size : Int) := by omega
  clear h hs
  generalize (⟨(Rec.putL s.size).toArray⟩ ++ s) = r at *
  go_enter Tryz.func12, Tryz.ntmps12
  go_wp2_with (first
    | (go_at_call 36; (with_reducible refine Calls.mono HM.out ?_); rintro e w4 ⟨rfl, hb⟩; rw [show unN 4 = 0 by rfl]; have HB4 := hide hb; clear hb)
    | (go_at_call 43; (with_reducible refine Calls.mono (HC.out _) ?_); rintro e w5 ⟨rfl, hb⟩; have hb2 := below_trans HB4.out hb; have HZ5 := hide hb2.size; have HB5 := hide (below_trans hb2 (below_alloc w5 (.cells #[.int .i64 0, .string ⟨#[]⟩, .int .i64 0] 90))); have HS5 := hide (st_new w5); clear hb hb2)
    | ((with_reducible refine atSt 90 ?_); refine wp_storeB (c := stA s.size s 0) (z := stA 0 ⟨#[]⟩ 0) HJ0.out rfl (st_one _ _ _) HS5.out _ _ (by rfl) (by rfl) (by rfl) (by rfl) ?_; intro W6 hb6 ho6; have HS6 := hide hb6; have HB6 := hide (below_only1 HB5.out ho6 HZ5.out); clear hb6 ho6)
    | ((with_reducible refine atLd 90 ?_); refine wp_loadB (c := stA s.size s 0) HJ0.out uS HS6.out _ (by rfl) (by rfl) (by rfl) ?_)
    | (go_at_call 44; (with_reducible refine Calls.mono (HT.out _) ?_); rintro e w7 ⟨rfl, hb⟩; have HB7 := hide (below_trans HB6.out hb); clear hb))
  go_ret2
  exact ⟨rfl, HB7.out⟩
end Go.Proofs.YthgclfhfipfknaaGreat
