/- Proved here: for every text of bulk at most 1048576 and every number the Go function bureaulaw15.TokenAll returns true, whatever is in memory but what the row lists. Condition: the bound on the arguments (upto). -/
import Derived.Test.YtkooijhdjjdigaaDoorRT
import Derived.Test.YtkooijhdjjdigaaDoorCMf
namespace Go.Proofs.YtkooijhdjjdigaaDoor
open Go.ChangeShapes Go.WideShapes Go.ChangeAt Go.RowKit
open Go.ChangeMaps (open_string shut_string)
set_option linter.unusedVariables false

theorem all_w (s : ByteArray) (hs : s.size ≤ 1048576) (lv : Int) (w : World) (hE : Env w) : Calls Tryd.prog 4 #[.string s, .int .i64 lv] w fun e w' => e = .returned (.bool true) ∧ Below w.heap.size w w' :=
  tokenAll_e s hs lv (code_scan _) (code_scan _) w hE
set_option maxRecDepth 100000 in
theorem tokenAll_contract (H : Type) (enc : TypeId × Value → H) (W : World) (base : Nat) (args : Array Value) (ds gs : List (DataW H)) (before : List MemPlace)
    (hval : ∀ (j : Nat) t v, Tryd.f4.params[j]? = some t → args[j]? = some v → Value.okWide Tryd.prog W .any base t v)
    (hW : DataW.Whole enc Tryd.prog Tryd.f4.params.toList Rows.tokenAllSpec.vars false W args.toList ds gs before) (hk : Rows.uptoSmall H (ds ++ gs) = true) (hL : laidMetH Tryd.prog Rows.tokenAllUptoRow.laid W) (hsh : W.ShapedOpen Tryd.prog) :
    Calls Tryd.prog 4 args W fun e W' => ∃ v, e = .returned v ∧ Rows.tokenAllSpec.post enc Tryd.prog Tryd.f4 false true false false W args v W' := by
  have hW' := hW
  obtain ⟨p, q, hA0, hV, rfl, hfz, hnd⟩ := hW
  have hA : DataW.TrodAll enc Tryd.prog W 0 (fun _ => true) true Tryd.f4.params.toList args.toList ds p := hA0
  rw [Tryd.params4] at hA hval
  obtain ⟨v0, vs0, d0, ds0, p0, q0, hargs, rfl, rfl, h0, r0⟩ := trodAll_cons hA
  obtain ⟨v1, vs1, d1, ds1, p1, q1, rfl, rfl, rfl, h1, r1⟩ := trodAll_cons r0
  obtain ⟨rfl, rfl, rfl⟩ := trodAll_nil r1
  obtain rfl : args = #[v0, v1] := by cases args; simp_all
  obtain ⟨rfl, rfl⟩ := trodVars_none hV
  obtain ⟨s0, rfl, rfl, rfl, ws0⟩ := open_string Tryd.underlying9 (hval 0 9 v0 rfl rfl) h0
  obtain ⟨m1, rfl, rfl, rfl, wm1⟩ := open_int Tryd.underlying3 (hval 1 3 v1 rfl rfl) h1
  simp only [List.append_nil] at hW'
  have hE := env_of hL hsh
  have hcall : Calls Tryd.prog 4 #[.string s0, .int .i64 m1] W fun e w' => e = .returned (.bool true) ∧ Below W.heap.size W w' := by
    have hb := small_of hk
    simp only [List.append_nil, Rows.uptoBulkAll, Rows.uptoBulk] at hb
    have e0 : s0.data.toList.length = s0.size := by simp
    exact all_w s0 (by omega) m1 W hE
  clear hA0 hk
  refine hcall.mono fun e W' ⟨he, bel⟩ => ?_
  subst he
  have hfin : DataW.TrodAll enc Tryd.prog W' 0 (fun b => decide (b < W.heap.size)) true [9, 3] [.string s0, .int .i64 m1] [.lit (.string s0.data.toList), .lit (.int .i64 m1)] ([]) := by
    simpa using (trodAll_cons_mk (shut_string Tryd.underlying9 ws0) (trodAll_cons_mk (shut_int Tryd.underlying3 wm1) trodAll_mk0))
  exact ⟨_, rfl, _, _, _, [], _, [], hW', trodAll_mk1 (shut_bool Tryd.underlying4 _), hfin, rfl, bel.frame _, fun h => by cases h⟩

/-- A world for the witness: every listed variable as it is listed. -/
noncomputable def tokenAllWorld (os : Os) : World := World.laidAll Tryd.prog os Rows.tokenAllUptoRow.laid
theorem tokenAll_met (os : Os) (args : Array Value) : laidMetH Tryd.prog Rows.tokenAllUptoRow.laid ((tokenAllWorld os).forCall (fun _ _ => 0) ⟨#[], args, []⟩).memory := by
  rw [MakeChecks.laidMetH_plain _ _ _ (by kernel_rfl)]
  exact laidMet_laidAll _ (by kernel_rfl) (by kernel_rfl)
noncomputable def tokenAllArgs : Array Value := #[.string ⟨#[]⟩, .int .i64 0]
theorem tokenAll_reads (os : Os) {H : Type} (enc : TypeId × Value → H) : ∃ places, DataW.whole enc Tryd.prog ((tokenAllWorld os).forCall (fun _ _ => 0) ⟨#[], tokenAllArgs, []⟩).memory Tryd.f4.params.toList Rows.tokenAllSpec.vars false tokenAllArgs.toList 8 =
    some ([.lit (.string []), .lit (.int .i64 0)], [], places) :=
  ⟨[], by kernel_rfl⟩

set_option maxRecDepth 100000 in
theorem tokenAll_lifted (os : Os) (started : os.Started) (H : Type) (enc : TypeId × Value → H) (F : Stop.Interp) :
    ReturnsInHanded {} Tryd.checked os 4 .any ((Rows.OpenSpec.upto Rows.tokenAllSpec).preRow enc Tryd.prog Tryd.f4 Rows.tokenAllUptoRow.domain false Rows.tokenAllUptoRow.laid) (((Rows.OpenSpec.upto Rows.tokenAllSpec).at F).post enc Tryd.prog Tryd.f4 false true false false) := by
  obtain ⟨places, hx⟩ := tokenAll_reads os enc
  refine returnsInHanded_of_row (C := Tryd.checked) (s := Rows.OpenSpec.upto Rows.tokenAllSpec) own started (by kernel_rfl) Tryd.func4
    (witness_row_at (enc := enc) (C := Tryd.checked) false (tokenAllWorld os) tokenAllArgs (World.laidAll_os _ _ _) (by kernel_rfl) (by kernel_rfl) (by kernel_rfl)
      (OpenSpec.preRow_of_cond 8 hx (by kernel_rfl) (fun k hk => by cases hk; kernel_rfl) (by kernel_rfl) (tokenAll_met os _))) ?_
  intro W base args ds gs before hval hW _ hcond _ hL hsh _
  exact tokenAll_contract H enc W base args ds gs before hval hW (hcond _ rfl) hL hsh

theorem tokenAll_said : Rows.TokenAllUptoSaid :=
  OpenClaim.holds_of_cond 4 Tryd.f4 rfl rfl rfl rfl rfl rfl rfl ⟨rfl, rfl, rfl, rfl, rfl⟩ rfl rfl rfl rfl rfl (by kernel_rfl) Tryd.func4 (by kernel_rfl)
    (of_decide_eq_true (by kernel_rfl)) (by unfold Func.isWrapper; first | (rw [if_pos (by decide +kernel)]; kernel_rfl) | (rw [if_neg (by decide +kernel)]; exact ⟨rfl, rfl⟩))
    (fun os started H enc _ F => by rw [OpenClaim.pre_eq_preRow]; exact tokenAll_lifted os started H enc F)

theorem tokenAll_plain (f : FuncId) (fn : Func) (hf : Tryd.pinned.checked.prog.funcNamed "bureau/bureaulaw15.TokenAll" = some f) (hfn : Tryd.pinned.checked.prog.funcs[f]? = some fn) :
    false = Tryd.pinned.checked.prog.looks [] ∧ ∀ (j : Nat) t, fn.params[j]? = some t → Tryd.pinned.checked.prog.wantsStandIn t = false := by
  obtain rfl : f = 4 := Option.some.inj ((show Tryd.prog.funcNamed "bureau/bureaulaw15.TokenAll" = some 4 by kernel_rfl).symm.trans hf) |>.symm
  obtain rfl : fn = Tryd.f4 := (Option.some.inj (Tryd.func4.symm.trans hfn)).symm
  refine ⟨by kernel_rfl, fun j t ht => ?_⟩
  rw [Tryd.params4] at ht
  have ht2 : t = 9 ∨ t = 3 := by simpa [or_assoc] using Array.mem_of_getElem? ht
  rcases ht2 with rfl | rfl
  · exact (show Tryd.prog.wantsStandIn 9 = false by kernel_rfl)
  · exact (show Tryd.prog.wantsStandIn 3 = false by kernel_rfl)

theorem tokenAll_holds : Rows.TokenAllUptoCardSaid :=
  Claim7.holds_tied_plain_at .later [] _ _ _ _ tokenAll_said (fun _ h => by cases h) (by kernel_rfl) (fun _ h => by cases h) tokenAllUpto_row_tie rfl ⟨rfl, rfl⟩ (by kernel_rfl) rfl tokenAll_plain (by kernel_rfl)
#print axioms tokenAll_holds
end Go.Proofs.YtkooijhdjjdigaaDoor
