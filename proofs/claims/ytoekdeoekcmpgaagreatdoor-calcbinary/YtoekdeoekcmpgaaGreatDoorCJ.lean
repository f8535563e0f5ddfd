/- Proved here: for all numbers op and c and all values a and b the Go function bureaulaw03.CalcBinary returns true: Binary answers what the document says of each operator, of any two values, under any collation. The card: the library's tables and errors hold what their initialisers lay; nothing else is asked. -/
import Derived.Test.YtoekdeoekcmpgaaGreatDoorCI
import Derived.Test.YtoekdeoekcmpgaaGreatDoorCE
namespace Go.Proofs.YtoekdeoekcmpgaaGreatDoor
open Go.ChangeShapes Go.WideShapes Go.ChangeAt Go.RowKit
open Go.ChangeMaps (open_string shut_string)
set_option linter.unusedVariables false

set_option maxRecDepth 100000 in
theorem cbin_contract (H : Type) (enc : TypeId × Value → H) (W : World) (base : Nat) (args : Array Value) (ds gs : List (DataW H)) (before : List MemPlace)
    (hval : ∀ (j : Nat) t v, Tryz.f5.params[j]? = some t → args[j]? = some v → Value.okWide Tryz.prog W .any base t v)
    (hW : DataW.Whole enc Tryz.prog Tryz.f5.params.toList Rows.calcBinarySpec.vars false W args.toList ds gs before) (hL : laidMetH Tryz.prog Rows.calcBinaryRow.laid W) (hsh : W.ShapedOpen Tryz.prog) :
    Calls Tryz.prog 5 args W fun e W' => ∃ v, e = .returned v ∧ Rows.calcBinarySpec.post enc Tryz.prog Tryz.f5 false true false false W args v W' := by
  have hW' := hW
  obtain ⟨p, q, hA0, hV, rfl, hfz, hnd⟩ := hW
  have hA : DataW.TrodAll enc Tryz.prog W 0 (fun _ => true) true Tryz.f5.params.toList args.toList ds p := hA0
  rw [Tryz.params5] at hA hval
  obtain ⟨v0, vs0, d0, ds0, p0, q0, hargs, rfl, rfl, h0, r0⟩ := trodAll_cons hA
  obtain ⟨v1, vs1, d1, ds1, p1, q1, rfl, rfl, rfl, h1, r1⟩ := trodAll_cons r0
  obtain ⟨v2, vs2, d2, ds2, p2, q2, rfl, rfl, rfl, h2, r2⟩ := trodAll_cons r1
  obtain ⟨v3, vs3, d3, ds3, p3, q3, rfl, rfl, rfl, h3, r3⟩ := trodAll_cons r2
  obtain ⟨rfl, rfl, rfl⟩ := trodAll_nil r3
  obtain rfl : args = #[v0, v1, v2, v3] := by cases args; simp_all
  obtain ⟨rfl, rfl⟩ := trodVars_none hV
  obtain ⟨m0, rfl, rfl, rfl, wm0⟩ := open_int Tryz.underlying3 (hval 0 3 v0 rfl rfl) h0
  obtain ⟨k1, n1, t1, rfl, rfl, rfl, wk1, wn1, wt1⟩ := open_val (hval 1 24 v1 rfl rfl) h1
  obtain ⟨k2, n2, t2, rfl, rfl, rfl, wk2, wn2, wt2⟩ := open_val (hval 2 24 v2 rfl rfl) h2
  obtain ⟨m3, rfl, rfl, rfl, wm3⟩ := open_int Tryz.underlying3 (hval 3 3 v3 rfl rfl) h3
  clear hA0
  refine (cbinary_walk m0 k1 n1 t1 k2 n2 t2 m3 (wf_range wm0).1 (wf_range wm0).2 (wf_range wn1).1 (wf_range wn1).2 (wf_range wn2).1 (wf_range wn2).2 (wf_range wm3).1 (wf_range wm3).2 W (env_of hL hsh)).mono fun e W' ⟨he, bel⟩ => ?_
  subst he
  exact ⟨_, rfl, _, _, _, [], _, [], hW', trodAll_mk1 (shut_bool Tryz.underlying4 _), (trodAll_cons_mk (shut_int Tryz.underlying3 wm0) (trodAll_cons_mk (shut_val wk1 wn1 wt1) (trodAll_cons_mk (shut_val wk2 wn2 wt2) (trodAll_cons_mk (shut_int Tryz.underlying3 wm3) trodAll_mk0)))), rfl, bel.frame _, fun h => by cases h⟩

/-- A world for the witness: every listed variable as it is listed. -/
noncomputable def cbinWorld (os : Os) : World := World.laidAll Tryz.prog os Rows.calcBinaryRow.laid
theorem cbin_met (os : Os) (args : Array Value) : laidMetH Tryz.prog Rows.calcBinaryRow.laid ((cbinWorld os).forCall (fun _ _ => 0) ⟨#[], args, []⟩).memory := by
  rw [MakeChecks.laidMetH_plain _ _ _ (by kernel_rfl)]
  exact laidMet_laidAll _ (by kernel_rfl) (by kernel_rfl)
noncomputable def cbinArgs : Array Value := #[.int .i64 0, val 0 0 ⟨#[]⟩, val 0 0 ⟨#[]⟩, .int .i64 0]
theorem cbin_reads (os : Os) {H : Type} (enc : TypeId × Value → H) : ∃ places, DataW.whole enc Tryz.prog ((cbinWorld os).forCall (fun _ _ => 0) ⟨#[], cbinArgs, []⟩).memory Tryz.f5.params.toList Rows.calcBinarySpec.vars false cbinArgs.toList 8 =
    some ([.lit (.int .i64 0), .agg [.lit (.int .i64 0), .lit (.int .i64 0), .lit (.string [])], .agg [.lit (.int .i64 0), .lit (.int .i64 0), .lit (.string [])], .lit (.int .i64 0)], [], places) :=
  ⟨[], by kernel_rfl⟩

set_option maxRecDepth 100000 in
theorem cbin_lifted (os : Os) (started : os.Started) (H : Type) (enc : TypeId × Value → H) (F : Stop.Interp) :
    ReturnsInHanded {} Tryz.checked os 5 .any ((OpenSpec.ofChange Rows.calcBinarySpec).preRow enc Tryz.prog Tryz.f5 Rows.calcBinaryRow.domain false Rows.calcBinaryRow.laid) (((OpenSpec.ofChange Rows.calcBinarySpec).at F).post enc Tryz.prog Tryz.f5 false true false false) := by
  obtain ⟨places, hx⟩ := cbin_reads os enc
  refine returnsInHanded_of_row (C := Tryz.checked) (s := OpenSpec.ofChange Rows.calcBinarySpec) own started (by kernel_rfl) Tryz.func5
    (witness_row_at (enc := enc) (C := Tryz.checked) false (cbinWorld os) cbinArgs (World.laidAll_os _ _ _) (by kernel_rfl) (by kernel_rfl) (by kernel_rfl)
      (OpenSpec.preRow_of_cond 8 hx (by kernel_rfl) (fun k hk => by cases hk) (by kernel_rfl) (cbin_met os _))) ?_
  intro W base args ds gs before hval hW _ _ _ hL hsh _
  exact cbin_contract H enc W base args ds gs before hval hW hL hsh

theorem cbin_said : Rows.CalcBinarySaid :=
  OpenClaim.holds_of_cond 5 Tryz.f5 rfl rfl rfl rfl rfl rfl rfl ⟨rfl, rfl, rfl, rfl, rfl⟩ rfl rfl rfl rfl rfl (by kernel_rfl) Tryz.func5 (by kernel_rfl)
    (of_decide_eq_true (by kernel_rfl)) (by unfold Func.isWrapper; first | (rw [if_pos (by decide +kernel)]; kernel_rfl) | (rw [if_neg (by decide +kernel)]; exact ⟨rfl, rfl⟩))
    (fun os started H enc _ F => by rw [OpenClaim.pre_eq_preRow]; exact cbin_lifted os started H enc F)

theorem cbin_plain (f : FuncId) (fn : Func) (hf : Tryz.pinned.checked.prog.funcNamed "bureau/bureaulaw03.CalcBinary" = some f) (hfn : Tryz.pinned.checked.prog.funcs[f]? = some fn) :
    true = Tryz.pinned.checked.prog.looks [] ∧ ∀ (j : Nat) t, fn.params[j]? = some t → Tryz.pinned.checked.prog.wantsStandIn t = false := by
  obtain rfl : f = 5 := Option.some.inj ((show Tryz.prog.funcNamed "bureau/bureaulaw03.CalcBinary" = some 5 by kernel_rfl).symm.trans hf) |>.symm
  obtain rfl : fn = Tryz.f5 := (Option.some.inj (Tryz.func5.symm.trans hfn)).symm
  refine ⟨by kernel_rfl, fun j t ht => ?_⟩
  rw [Tryz.params5] at ht
  have ht2 : t = 3 ∨ t = 24 ∨ t = 24 ∨ t = 3 := by simpa [or_assoc] using Array.mem_of_getElem? ht
  rcases ht2 with rfl | rfl | rfl | rfl
  · exact (show Tryz.prog.wantsStandIn 3 = false by kernel_rfl)
  · exact (show Tryz.prog.wantsStandIn 24 = false by kernel_rfl)
  · exact (show Tryz.prog.wantsStandIn 24 = false by kernel_rfl)
  · exact (show Tryz.prog.wantsStandIn 3 = false by kernel_rfl)

theorem calcBinary_holds : Rows.CalcBinaryCardSaid :=
  Claim7.holds_tied_plain_at .later [] _ _ _ _ cbin_said (fun _ h => by cases h) (by kernel_rfl) (fun _ h => by cases h) calcBinary_row_tie rfl ⟨rfl, rfl⟩ (by kernel_rfl) rfl cbin_plain (by kernel_rfl)
#print axioms calcBinary_holds
end Go.Proofs.YtoekdeoekcmpgaaGreatDoor
