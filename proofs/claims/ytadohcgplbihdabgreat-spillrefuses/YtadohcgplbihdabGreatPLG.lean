/- Package spill: a payload without a chain is put in. -/
import Derived.Test.YtadohcgplbihdabGreatPLF
namespace Go.Proofs.YtadohcgplbihdabGreat
open Go.ChangeShapes Go.WideShapes Go.ChangeAt Go.RowKit Go.Maps
set_option linter.unusedVariables false

set_option maxRecDepth 20000 in
theorem cut_e (w : World) (s : ByteArray) (hs : s.size ≤ 40) : Calls Tryz.prog 58 #[.string s] w fun e w' => e = .returned (.tuple #[.agg (stA s.size s 0), .string ⟨#[]⟩]) ∧ Below w.heap.size w w' := by
  have l1 : min (s.size : Int) 40 = s.size := by omega
  have l2 : s.extract 0 s.size = s := by simp
  have l4 : ¬ (s.size : Int) < 0 := by omega
  have l5 : (s.size : Int) ≤ (s.size : Int) := by omega
  go_enter Tryz.func58, Tryz.ntmps58
  go_wp2
  go_region
  go_wp2
  go_returns
  exact ⟨rfl, (below_alloc _ _).drew⟩
set_option maxRecDepth 20000 in
theorem text_e (w : World) (n : Nat) (s : ByteArray) (hn : n ≤ 40) (hs : s.size = n) : Calls Tryz.prog 59 #[.agg (stA n s 0)] w fun e w' => e = .returned (.string (⟨(Rec.putL n).toArray⟩ ++ s)) ∧ Below w.heap.size w w' := by
  have HPt := hide (fun V => Rec.put_walk n (by omega) V)
  have HBh := hide (fun X => behind_e X n s 0 (by omega) (by omega))
  rw [show (n : Int) - s.size = 0 by omega] at HBh
  have hp : (Rec.putL n).length ≤ 9 := by rw [Rec.putL_length]; exact (Rec.vsz_pos n).2
  generalize Rec.putL n = l at *
  have hcat : ∀ V, (Op.stringOp BinOp.add ⟨l.toArray⟩ s).run Tryz.prog V = .ok (.string (⟨l.toArray⟩ ++ s)) V := fun V => run_string_add_sum V _ _ (by
    show l.toArray.size + s.size ≤ _
    rw [List.size_toArray]
    omega)
  have HB0 := hide (below_alloc w (.cells (stA n s 0) 118))
  have HC0 := hide (st_cells (Blk.drew (Blk.new w (stA n s 0) 118)))
  unfold stA at HBh HB0 HC0
  have lw : IntKind.u64.wrap (n : Int) = n := by rw [IntKind.wrap_u64]; omega
  unfold stA
  go_enter Tryz.func59, Tryz.ntmps59
  go_wp2
  go_region_held3 (fun V => V.cell? ⟨w.heap.size, 0, none⟩ = some (.int .i64 n) ∧ V.cell? ⟨w.heap.size, 1, none⟩ = some (.string s) ∧ V.cell? ⟨w.heap.size, 2, none⟩ = some (.int .i64 0)) (first | exact HC0.out | exact HC4.out) (first
    | (go_at_call 102; (with_reducible refine Calls.mono (HPt.out _) ?_); rintro e w4 ⟨rfl, hb⟩; have HC4 := hide (cells3_later hb HC0.out); have HB4 := hide (below_trans HB0.out.drew hb); clear hb))
  all_goals
    go_wp2_with (first
      | (go_at_call 91; (with_reducible refine Calls.mono (HBh.out _) ?_); rintro e w5 ⟨rfl, hb⟩; have HB5 := hide (below_trans HB4.out hb); clear hb))
    go_ret
    exact ⟨rfl, HB5.out⟩
theorem Tr.mayC {w : World} {t pm n : Nat} {P : Nat → List UInt8} {K : Nat} (h : Tr w t pm n P K true) : PtK w (some ⟨t, 0, none⟩) 0 zs 4 (fun w' => Below w.heap.size w w') := .out h (.inl (by omega))
set_option maxRecDepth 20000 in
theorem put_short (w : World) (t pm m : Nat) {P : Nat → List UInt8} {K : Nat} (h : Tr w t pm m P K true) (s : ByteArray) (hs : s.size ≤ 40) : Calls Tryz.prog 22 #[.pointer (some ⟨t, 0, none⟩), .string s] w fun e w' => e = .returned (.tuple #[.string (⟨(Rec.putL s.size).toArray⟩ ++ s), .int .i64 0]) ∧ Below w.heap.size w w' := by
  have HM := hide (pmayChange_e w _ 4 _ h.mayC)
  have HC := hide (fun X => cut_e X s hs)
  have HT := hide (fun X => text_e X s.size s hs rfl)
  have HJ0 := hide (sizeS s.size s 0)
  have l1 : ¬ (4000 : Int) < (s.size : Int) := by omega
  clear h hs
  generalize (⟨(Rec.putL s.size).toArray⟩ ++ s) = r at *
  go_enter Tryz.func22, Tryz.ntmps22
  go_wp2_with (first
    | (go_at_call 52; (with_reducible refine Calls.mono HM.out ?_); rintro e w4 ⟨rfl, hb⟩; rw [show unN 4 = 0 by rfl]; have HB4 := hide hb; clear hb)
    | (go_at_call 58; (with_reducible refine Calls.mono (HC.out _) ?_); rintro e w5 ⟨rfl, hb⟩; have hb2 := below_trans HB4.out hb; have HZ5 := hide hb2.size; have HB5 := hide (below_trans hb2 (below_alloc w5 (.cells #[.int .i64 0, .string ⟨#[]⟩, .int .i64 0] 118))); have HS5 := hide (st_new w5); clear hb hb2)
    | ((with_reducible refine atSt 118 ?_); refine wp_storeB (c := stA s.size s 0) (z := stA 0 ⟨#[]⟩ 0) HJ0.out rfl (st_one _ _ _) HS5.out _ _ (by rfl) (by rfl) (by rfl) (by rfl) ?_; intro W6 hb6 ho6; have HS6 := hide hb6; have HB6 := hide (below_only1 HB5.out ho6 HZ5.out); clear hb6 ho6)
    | ((with_reducible refine atLd 118 ?_); refine wp_loadB (c := stA s.size s 0) HJ0.out uS HS6.out _ (by rfl) (by rfl) (by rfl) ?_)
    | (go_at_call 59; (with_reducible refine Calls.mono (HT.out _) ?_); rintro e w7 ⟨rfl, hb⟩; have HB7 := hide (below_trans HB6.out hb); clear hb))
  go_ret2
  exact ⟨rfl, HB7.out⟩
end Go.Proofs.YtadohcgplbihdabGreat
