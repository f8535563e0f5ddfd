/- Proved here: for all values a and b and every number n as a collation the Go function bureaulaw03.CalcLogic returns true: the logic of three values keeps its rules, comparisons are one another's opposites, and In of one value is whether it is equal. The card: the library's tables and errors hold what their initialisers lay; nothing else is asked. -/
import Derived.Test.YtoekdeoekcmpgabGreatDoorLC
import Derived.Test.YtoekdeoekcmpgabGreatDoorCE
namespace Go.Proofs.YtoekdeoekcmpgabGreatDoor
open Go.ChangeShapes Go.WideShapes Go.ChangeAt Go.RowKit
open Go.ChangeMaps (open_string shut_string)
set_option linter.unusedVariables false

set_option maxRecDepth 100000 in
theorem clog_contract (H : Type) (enc : TypeId × Value → H) (W : World) (base : Nat) (args : Array Value) (ds gs : List (DataW H)) (before : List MemPlace)
    (hval : ∀ (j : Nat) t v, Tryz.f3.params[j]? = some t → args[j]? = some v → Value.okWide Tryz.prog W .any base t v)
    (hW : DataW.Whole enc Tryz.prog Tryz.f3.params.toList Rows.calcLogicSpec.vars false W args.toList ds gs before) (hL : laidMetH Tryz.prog Rows.calcLogicRow.laid W) (hsh : W.ShapedOpen Tryz.prog) :
    Calls Tryz.prog 3 args W fun e W' => ∃ v, e = .returned v ∧ Rows.calcLogicSpec.post enc Tryz.prog Tryz.f3 false true false false W args v W' := by
  have hW' := hW
  obtain ⟨p, q, hA0, hV, rfl, hfz, hnd⟩ := hW
  have hA : DataW.TrodAll enc Tryz.prog W 0 (fun _ => true) true Tryz.f3.params.toList args.toList ds p := hA0
  rw [Tryz.params3] at hA hval
  obtain ⟨v0, vs0, d0, ds0, p0, q0, hargs, rfl, rfl, h0, r0⟩ := trodAll_cons hA
  obtain ⟨v1, vs1, d1, ds1, p1, q1, rfl, rfl, rfl, h1, r1⟩ := trodAll_cons r0
  obtain ⟨v2, vs2, d2, ds2, p2, q2, rfl, rfl, rfl, h2, r2⟩ := trodAll_cons r1
  obtain ⟨rfl, rfl, rfl⟩ := trodAll_nil r2
  obtain rfl : args = #[v0, v1, v2] := by cases args; simp_all
  obtain ⟨rfl, rfl⟩ := trodVars_none hV
  obtain ⟨k0, n0, t0, rfl, rfl, rfl, wk0, wn0, wt0⟩ := open_val (hval 0 24 v0 rfl rfl) h0
  obtain ⟨k1, n1, t1, rfl, rfl, rfl, wk1, wn1, wt1⟩ := open_val (hval 1 24 v1 rfl rfl) h1
  obtain ⟨m2, rfl, rfl, rfl, wm2⟩ := open_int Tryz.underlying3 (hval 2 3 v2 rfl rfl) h2
  clear hA0
  refine (logic_walk k0 n0 t0 k1 n1 t1 m2 (wf_range wn0).1 (wf_range wn0).2 (wf_range wn1).1 (wf_range wn1).2 (wf_range wm2).1 (wf_range wm2).2 W (env_of hL hsh)).mono fun e W' ⟨he, bel⟩ => ?_
  subst he
  exact ⟨_, rfl, _, _, _, [], _, [], hW', trodAll_mk1 (shut_bool Tryz.underlying4 _), (trodAll_cons_mk (shut_val wk0 wn0 wt0) (trodAll_cons_mk (shut_val wk1 wn1 wt1) (trodAll_cons_mk (shut_int Tryz.underlying3 wm2) trodAll_mk0))), rfl, bel.frame _, fun h => by cases h⟩

/-- A world for the witness: every listed variable as it is listed. -/
noncomputable def clogWorld (os : Os) : World := World.laidAll Tryz.prog os Rows.calcLogicRow.laid
theorem clog_met (os : Os) (args : Array Value) : laidMetH Tryz.prog Rows.calcLogicRow.laid ((clogWorld os).forCall (fun _ _ => 0) ⟨#[], args, []⟩).memory := by
  rw [MakeChecks.laidMetH_plain _ _ _ (by kernel_rfl)]
  exact laidMet_laidAll _ (by kernel_rfl) (by kernel_rfl)
noncomputable def clogArgs : Array Value := #[val 0 0 ⟨#[]⟩, val 0 0 ⟨#[]⟩, .int .i64 0]
theorem clog_reads (os : Os) {H : Type} (enc : TypeId × Value → H) : ∃ places, DataW.whole enc Tryz.prog ((clogWorld os).forCall (fun _ _ => 0) ⟨#[], clogArgs, []⟩).memory Tryz.f3.params.toList Rows.calcLogicSpec.vars false clogArgs.toList 8 =
    some ([.agg [.lit (.int .i64 0), .lit (.int .i64 0), .lit (.string [])], .agg [.lit (.int .i64 0), .lit (.int .i64 0), .lit (.string [])], .lit (.int .i64 0)], [], places) :=
  ⟨[], by kernel_rfl⟩

set_option maxRecDepth 100000 in
theorem clog_lifted (os : Os) (started : os.Started) (H : Type) (enc : TypeId × Value → H) (F : Stop.Interp) :
    ReturnsInHanded {} Tryz.checked os 3 .any ((OpenSpec.ofChange Rows.calcLogicSpec).preRow enc Tryz.prog Tryz.f3 Rows.calcLogicRow.domain false Rows.calcLogicRow.laid) (((OpenSpec.ofChange Rows.calcLogicSpec).at F).post enc Tryz.prog Tryz.f3 false true false false) := by
  obtain ⟨places, hx⟩ := clog_reads os enc
  refine returnsInHanded_of_row (C := Tryz.checked) (s := OpenSpec.ofChange Rows.calcLogicSpec) own started (by kernel_rfl) Tryz.func3
    (witness_row_at (enc := enc) (C := Tryz.checked) false (clogWorld os) clogArgs (World.laidAll_os _ _ _) (by kernel_rfl) (by kernel_rfl) (by kernel_rfl)
      (OpenSpec.preRow_of_cond 8 hx (by kernel_rfl) (fun k hk => by cases hk) (by kernel_rfl) (clog_met os _))) ?_
  intro W base args ds gs before hval hW _ _ _ hL hsh _
  exact clog_contract H enc W base args ds gs before hval hW hL hsh

theorem clog_said : Rows.CalcLogicSaid :=
  OpenClaim.holds_of_cond 3 Tryz.f3 rfl rfl rfl rfl rfl rfl rfl ⟨rfl, rfl, rfl, rfl, rfl⟩ rfl rfl rfl rfl rfl (by kernel_rfl) Tryz.func3 (by kernel_rfl)
    (of_decide_eq_true (by kernel_rfl)) (by unfold Func.isWrapper; first | (rw [if_pos (by decide +kernel)]; kernel_rfl) | (rw [if_neg (by decide +kernel)]; exact ⟨rfl, rfl⟩))
    (fun os started H enc _ F => by rw [OpenClaim.pre_eq_preRow]; exact clog_lifted os started H enc F)

theorem clog_plain (f : FuncId) (fn : Func) (hf : Tryz.pinned.checked.prog.funcNamed "bureau/bureaulaw03.CalcLogic" = some f) (hfn : Tryz.pinned.checked.prog.funcs[f]? = some fn) :
    true = Tryz.pinned.checked.prog.looks [] ∧ ∀ (j : Nat) t, fn.params[j]? = some t → Tryz.pinned.checked.prog.wantsStandIn t = false := by
  obtain rfl : f = 3 := Option.some.inj ((show Tryz.prog.funcNamed "bureau/bureaulaw03.CalcLogic" = some 3 by kernel_rfl).symm.trans hf) |>.symm
  obtain rfl : fn = Tryz.f3 := (Option.some.inj (Tryz.func3.symm.trans hfn)).symm
  refine ⟨by kernel_rfl, fun j t ht => ?_⟩
  rw [Tryz.params3] at ht
  have ht2 : t = 24 ∨ t = 24 ∨ t = 3 := by simpa [or_assoc] using Array.mem_of_getElem? ht
  rcases ht2 with rfl | rfl | rfl
  · exact (show Tryz.prog.wantsStandIn 24 = false by kernel_rfl)
  · exact (show Tryz.prog.wantsStandIn 24 = false by kernel_rfl)
  · exact (show Tryz.prog.wantsStandIn 3 = false by kernel_rfl)

theorem calcLogic_holds : Rows.CalcLogicCardSaid :=
  Claim7.holds_tied_plain_at .later [] _ _ _ _ clog_said (fun _ h => by cases h) (by kernel_rfl) (fun _ h => by cases h) calcLogic_row_tie rfl ⟨rfl, rfl⟩ (by kernel_rfl) rfl clog_plain (by kernel_rfl)
#print axioms calcLogic_holds
end Go.Proofs.YtoekdeoekcmpgabGreatDoor
