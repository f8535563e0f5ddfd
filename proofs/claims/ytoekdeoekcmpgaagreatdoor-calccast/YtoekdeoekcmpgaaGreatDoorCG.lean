/- Proved here: for every value v and every text name the Go function bureaulaw03.CalcCast returns true: AffOf and Cast answer what the document says of a type's name and of a value as one of that type, and refuse as it says. The card: the library's tables and errors hold what their initialisers lay; nothing else is asked. -/
import Derived.Test.YtoekdeoekcmpgaaGreatDoorKAE
import Derived.Test.YtoekdeoekcmpgaaGreatDoorCE
import Derived.SizedLaws
namespace Go.Proofs.YtoekdeoekcmpgaaGreatDoor
open Go.ChangeShapes Go.WideShapes Go.ChangeAt Go.RowKit
open Go.ChangeMaps (open_string shut_string)
set_option linter.unusedVariables false

set_option maxRecDepth 100000 in
theorem ccast_contract (H : Type) (enc : TypeId × Value → H) (W : World) (base : Nat) (args : Array Value) (ds gs : List (DataW H)) (before : List MemPlace)
    (hval : ∀ (j : Nat) t v, Tryz.f8.params[j]? = some t → args[j]? = some v → Value.okWide Tryz.prog W .any base t v)
    (hW : DataW.Whole enc Tryz.prog Tryz.f8.params.toList Rows.calcCastSpec.vars false W args.toList ds gs before) (hsz : (DataW.weightsEach Tryz.prog (Tryz.f8.params.toList ++ (OpenSpec.ofChange Rows.calcCastSpec).bare.plain.varTypes Tryz.prog) (ds ++ gs)).all (· ≤ reachBytes) = true) (hL : laidMetH Tryz.prog Rows.calcCastRow.laid W) (hsh : W.ShapedOpen Tryz.prog) :
    Calls Tryz.prog 8 args W fun e W' => ∃ v, e = .returned v ∧ Rows.calcCastSpec.post enc Tryz.prog Tryz.f8 false true false false W args v W' := by
  have hW' := hW
  obtain ⟨p, q, hA0, hV, rfl, hfz, hnd⟩ := hW
  have hA : DataW.TrodAll enc Tryz.prog W 0 (fun _ => true) true Tryz.f8.params.toList args.toList ds p := hA0
  rw [Tryz.params8] at hA hval
  obtain ⟨v0, vs0, d0, ds0, p0, q0, hargs, rfl, rfl, h0, r0⟩ := trodAll_cons hA
  obtain ⟨v1, vs1, d1, ds1, p1, q1, rfl, rfl, rfl, h1, r1⟩ := trodAll_cons r0
  obtain ⟨rfl, rfl, rfl⟩ := trodAll_nil r1
  obtain rfl : args = #[v0, v1] := by cases args; simp_all
  obtain ⟨rfl, rfl⟩ := trodVars_none hV
  obtain ⟨k0, n0, t0, rfl, rfl, rfl, wk0, wn0, wt0⟩ := open_val (hval 0 24 v0 rfl rfl) h0
  obtain ⟨s1, rfl, rfl, rfl, ws1⟩ := open_string Tryz.underlying9 (hval 1 9 v1 rfl rfl) h1
  have hsl : s1.data.toList.length = s1.size := by simp
  have hreach : s1.size ≤ 140737488351232 := by
    have h := sized_string (j := 1) (t := 9) hsz (by rw [Tryz.params8]; rfl) rfl
    unfold reachBytes at h
    omega
  clear hA0 hsz
  refine (ccast_walk k0 n0 t0 s1 (wf_range wn0).1 (wf_range wn0).2 hreach W (env_of hL hsh)).mono fun e W' ⟨he, bel⟩ => ?_
  subst he
  exact ⟨_, rfl, _, _, _, [], _, [], hW', trodAll_mk1 (shut_bool Tryz.underlying4 _), (trodAll_cons_mk (shut_val wk0 wn0 wt0) (trodAll_cons_mk (shut_string Tryz.underlying9 ws1) trodAll_mk0)), rfl, bel.frame _, fun h => by cases h⟩

/-- A world for the witness: every listed variable as it is listed. -/
noncomputable def ccastWorld (os : Os) : World := World.laidAll Tryz.prog os Rows.calcCastRow.laid
theorem ccast_met (os : Os) (args : Array Value) : laidMetH Tryz.prog Rows.calcCastRow.laid ((ccastWorld os).forCall (fun _ _ => 0) ⟨#[], args, []⟩).memory := by
  rw [MakeChecks.laidMetH_plain _ _ _ (by kernel_rfl)]
  exact laidMet_laidAll _ (by kernel_rfl) (by kernel_rfl)
noncomputable def ccastArgs : Array Value := #[val 0 0 ⟨#[]⟩, .string ⟨#[]⟩]
theorem ccast_reads (os : Os) {H : Type} (enc : TypeId × Value → H) : ∃ places, DataW.whole enc Tryz.prog ((ccastWorld os).forCall (fun _ _ => 0) ⟨#[], ccastArgs, []⟩).memory Tryz.f8.params.toList Rows.calcCastSpec.vars false ccastArgs.toList 8 =
    some ([.agg [.lit (.int .i64 0), .lit (.int .i64 0), .lit (.string [])], .lit (.string [])], [], places) :=
  ⟨[], by kernel_rfl⟩

set_option maxRecDepth 100000 in
theorem ccast_lifted (os : Os) (started : os.Started) (H : Type) (enc : TypeId × Value → H) (F : Stop.Interp) :
    ReturnsInHanded {} Tryz.checked os 8 .any ((OpenSpec.ofChange Rows.calcCastSpec).preRow enc Tryz.prog Tryz.f8 Rows.calcCastRow.domain false Rows.calcCastRow.laid) (((OpenSpec.ofChange Rows.calcCastSpec).at F).post enc Tryz.prog Tryz.f8 false true false false) := by
  obtain ⟨places, hx⟩ := ccast_reads os enc
  refine returnsInHanded_of_row (C := Tryz.checked) (s := OpenSpec.ofChange Rows.calcCastSpec) own started (by kernel_rfl) Tryz.func8
    (witness_row_at (enc := enc) (C := Tryz.checked) false (ccastWorld os) ccastArgs (World.laidAll_os _ _ _) (by kernel_rfl) (by kernel_rfl) (by kernel_rfl)
      (OpenSpec.preRow_of_cond 8 hx (by kernel_rfl) (fun k hk => by cases hk) (by kernel_rfl) (ccast_met os _))) ?_
  intro W base args ds gs before hval hW _ _ hsz hL hsh _
  exact ccast_contract H enc W base args ds gs before hval hW hsz hL hsh

theorem ccast_said : Rows.CalcCastSaid :=
  OpenClaim.holds_of_cond 8 Tryz.f8 rfl rfl rfl rfl rfl rfl rfl ⟨rfl, rfl, rfl, rfl, rfl⟩ rfl rfl rfl rfl rfl (by kernel_rfl) Tryz.func8 (by kernel_rfl)
    (of_decide_eq_true (by kernel_rfl)) (by unfold Func.isWrapper; first | (rw [if_pos (by decide +kernel)]; kernel_rfl) | (rw [if_neg (by decide +kernel)]; exact ⟨rfl, rfl⟩))
    (fun os started H enc _ F => by rw [OpenClaim.pre_eq_preRow]; exact ccast_lifted os started H enc F)

theorem ccast_plain (f : FuncId) (fn : Func) (hf : Tryz.pinned.checked.prog.funcNamed "bureau/bureaulaw03.CalcCast" = some f) (hfn : Tryz.pinned.checked.prog.funcs[f]? = some fn) :
    true = Tryz.pinned.checked.prog.looks [] ∧ ∀ (j : Nat) t, fn.params[j]? = some t → Tryz.pinned.checked.prog.wantsStandIn t = false := by
  obtain rfl : f = 8 := Option.some.inj ((show Tryz.prog.funcNamed "bureau/bureaulaw03.CalcCast" = some 8 by kernel_rfl).symm.trans hf) |>.symm
  obtain rfl : fn = Tryz.f8 := (Option.some.inj (Tryz.func8.symm.trans hfn)).symm
  refine ⟨by kernel_rfl, fun j t ht => ?_⟩
  rw [Tryz.params8] at ht
  have ht2 : t = 24 ∨ t = 9 := by simpa [or_assoc] using Array.mem_of_getElem? ht
  rcases ht2 with rfl | rfl
  · exact (show Tryz.prog.wantsStandIn 24 = false by kernel_rfl)
  · exact (show Tryz.prog.wantsStandIn 9 = false by kernel_rfl)

theorem calcCast_holds : Rows.CalcCastCardSaid :=
  Claim7.holds_tied_plain_at .later [] _ _ _ _ ccast_said (fun _ h => by cases h) (by kernel_rfl) (fun _ h => by cases h) calcCast_row_tie rfl ⟨rfl, rfl⟩ (by kernel_rfl) rfl ccast_plain (by kernel_rfl)
#print axioms calcCast_holds
end Go.Proofs.YtoekdeoekcmpgaaGreatDoor
