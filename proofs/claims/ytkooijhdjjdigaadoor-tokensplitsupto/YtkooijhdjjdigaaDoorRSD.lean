/- Proved here: for every text of bulk at most 1048576 the Go function bureaulaw15.TokenSplits returns true, whatever is in memory but what the row lists. Condition: the bound on the arguments (upto). -/
import Derived.Test.YtkooijhdjjdigaaDoorRT
import Derived.Test.YtkooijhdjjdigaaDoorCN
namespace Go.Proofs.YtkooijhdjjdigaaDoor
open Go.ChangeShapes Go.WideShapes Go.ChangeAt Go.RowKit
open Go.ChangeMaps (open_string shut_string)
set_option linter.unusedVariables false

theorem pce_len (L : List UInt8) (c : Option (Nat × Nat)) : (pce L c).length ≤ 1 := by cases c <;> simp [pce]
theorem spl_len (L : List UInt8) : ∀ (T : List Tk) (E : List Nat) (c : Option (Nat × Nat)), (spl L c T E).length ≤ T.length + 1
  | [], E, c => by cases E <;> (rw [spl] <;> first | exact pce_len L c | simp)
  | t :: T, [], c => by
    have := pce_len L c
    rw [spl]
    · simp; omega
    · simp
  | t :: T, e :: E, c => by
    rw [spl]
    split
    · have h1 := spl_len L T E none
      have h2 := pce_len L c
      simp; omega
    · have h1 := spl_len L T E (some ((c.map (·.1)).getD t.a, e))
      simp; omega
theorem splitR_len (l : List UInt8) : (splitR l).1.length ≤ l.length + 1 := by
  unfold splitR
  split
  · simp
  · have h1 := spl_len l (toksS l).1 (toksS l).2.1 none
    have h2 := (toksS_rise l).few
    simp only
    omega
theorem splits_w (s : ByteArray) (hs : s.size ≤ 1048576) (w : World) (hE : Env w) : Calls Tryd.prog 7 #[.string s] w fun e w' => e = .returned (.bool true) ∧ Below w.heap.size w w' :=
  tokenSplits_e s (by omega) (code_scan _) (code_scan _) (split_e s hs) (by have h := splitR_len s.data.toList; have e : s.data.toList.length = s.size := by simp
                                                                            omega) w hE
set_option maxRecDepth 100000 in
theorem tokenSplits_contract (H : Type) (enc : TypeId × Value → H) (W : World) (base : Nat) (args : Array Value) (ds gs : List (DataW H)) (before : List MemPlace)
    (hval : ∀ (j : Nat) t v, Tryd.f7.params[j]? = some t → args[j]? = some v → Value.okWide Tryd.prog W .any base t v)
    (hW : DataW.Whole enc Tryd.prog Tryd.f7.params.toList Rows.tokenSplitsSpec.vars false W args.toList ds gs before) (hk : Rows.uptoSmall H (ds ++ gs) = true) (hL : laidMetH Tryd.prog Rows.tokenSplitsUptoRow.laid W) (hsh : W.ShapedOpen Tryd.prog) :
    Calls Tryd.prog 7 args W fun e W' => ∃ v, e = .returned v ∧ Rows.tokenSplitsSpec.post enc Tryd.prog Tryd.f7 false true false false W args v W' := by
  have hW' := hW
  obtain ⟨p, q, hA0, hV, rfl, hfz, hnd⟩ := hW
  have hA : DataW.TrodAll enc Tryd.prog W 0 (fun _ => true) true Tryd.f7.params.toList args.toList ds p := hA0
  rw [Tryd.params7] at hA hval
  obtain ⟨v0, vs0, d0, ds0, p0, q0, hargs, rfl, rfl, h0, r0⟩ := trodAll_cons hA
  obtain ⟨rfl, rfl, rfl⟩ := trodAll_nil r0
  obtain rfl : args = #[v0] := by cases args; simp_all
  obtain ⟨rfl, rfl⟩ := trodVars_none hV
  obtain ⟨s0, rfl, rfl, rfl, ws0⟩ := open_string Tryd.underlying9 (hval 0 9 v0 rfl rfl) h0
  simp only [List.append_nil] at hW'
  have hE := env_of hL hsh
  have hcall : Calls Tryd.prog 7 #[.string s0] W fun e w' => e = .returned (.bool true) ∧ Below W.heap.size W w' := by
    have hb := small_of hk
    simp only [List.append_nil, Rows.uptoBulkAll, Rows.uptoBulk] at hb
    have e0 : s0.data.toList.length = s0.size := by simp
    exact splits_w s0 (by omega) W hE
  clear hA0 hk
  refine hcall.mono fun e W' ⟨he, bel⟩ => ?_
  subst he
  have hfin : DataW.TrodAll enc Tryd.prog W' 0 (fun b => decide (b < W.heap.size)) true [9] [.string s0] [.lit (.string s0.data.toList)] ([]) := by
    simpa using (trodAll_cons_mk (shut_string Tryd.underlying9 ws0) trodAll_mk0)
  exact ⟨_, rfl, _, _, _, [], _, [], hW', trodAll_mk1 (shut_bool Tryd.underlying4 _), hfin, rfl, bel.frame _, fun h => by cases h⟩

/-- A world for the witness: every listed variable as it is listed. -/
noncomputable def tokenSplitsWorld (os : Os) : World := World.laidAll Tryd.prog os Rows.tokenSplitsUptoRow.laid
theorem tokenSplits_met (os : Os) (args : Array Value) : laidMetH Tryd.prog Rows.tokenSplitsUptoRow.laid ((tokenSplitsWorld os).forCall (fun _ _ => 0) ⟨#[], args, []⟩).memory := by
  rw [MakeChecks.laidMetH_plain _ _ _ (by kernel_rfl)]
  exact laidMet_laidAll _ (by kernel_rfl) (by kernel_rfl)
noncomputable def tokenSplitsArgs : Array Value := #[.string ⟨#[]⟩]
theorem tokenSplits_reads (os : Os) {H : Type} (enc : TypeId × Value → H) : ∃ places, DataW.whole enc Tryd.prog ((tokenSplitsWorld os).forCall (fun _ _ => 0) ⟨#[], tokenSplitsArgs, []⟩).memory Tryd.f7.params.toList Rows.tokenSplitsSpec.vars false tokenSplitsArgs.toList 8 =
    some ([.lit (.string [])], [], places) :=
  ⟨[], by kernel_rfl⟩

set_option maxRecDepth 100000 in
theorem tokenSplits_lifted (os : Os) (started : os.Started) (H : Type) (enc : TypeId × Value → H) (F : Stop.Interp) :
    ReturnsInHanded {} Tryd.checked os 7 .any ((Rows.OpenSpec.upto Rows.tokenSplitsSpec).preRow enc Tryd.prog Tryd.f7 Rows.tokenSplitsUptoRow.domain false Rows.tokenSplitsUptoRow.laid) (((Rows.OpenSpec.upto Rows.tokenSplitsSpec).at F).post enc Tryd.prog Tryd.f7 false true false false) := by
  obtain ⟨places, hx⟩ := tokenSplits_reads os enc
  refine returnsInHanded_of_row (C := Tryd.checked) (s := Rows.OpenSpec.upto Rows.tokenSplitsSpec) own started (by kernel_rfl) Tryd.func7
    (witness_row_at (enc := enc) (C := Tryd.checked) false (tokenSplitsWorld os) tokenSplitsArgs (World.laidAll_os _ _ _) (by kernel_rfl) (by kernel_rfl) (by kernel_rfl)
      (OpenSpec.preRow_of_cond 8 hx (by kernel_rfl) (fun k hk => by cases hk; kernel_rfl) (by kernel_rfl) (tokenSplits_met os _))) ?_
  intro W base args ds gs before hval hW _ hcond _ hL hsh _
  exact tokenSplits_contract H enc W base args ds gs before hval hW (hcond _ rfl) hL hsh

theorem tokenSplits_said : Rows.TokenSplitsUptoSaid :=
  OpenClaim.holds_of_cond 7 Tryd.f7 rfl rfl rfl rfl rfl rfl rfl ⟨rfl, rfl, rfl, rfl, rfl⟩ rfl rfl rfl rfl rfl (by kernel_rfl) Tryd.func7 (by kernel_rfl)
    (of_decide_eq_true (by kernel_rfl)) (by unfold Func.isWrapper; first | (rw [if_pos (by decide +kernel)]; kernel_rfl) | (rw [if_neg (by decide +kernel)]; exact ⟨rfl, rfl⟩))
    (fun os started H enc _ F => by rw [OpenClaim.pre_eq_preRow]; exact tokenSplits_lifted os started H enc F)

theorem tokenSplits_plain (f : FuncId) (fn : Func) (hf : Tryd.pinned.checked.prog.funcNamed "bureau/bureaulaw15.TokenSplits" = some f) (hfn : Tryd.pinned.checked.prog.funcs[f]? = some fn) :
    false = Tryd.pinned.checked.prog.looks [] ∧ ∀ (j : Nat) t, fn.params[j]? = some t → Tryd.pinned.checked.prog.wantsStandIn t = false := by
  obtain rfl : f = 7 := Option.some.inj ((show Tryd.prog.funcNamed "bureau/bureaulaw15.TokenSplits" = some 7 by kernel_rfl).symm.trans hf) |>.symm
  obtain rfl : fn = Tryd.f7 := (Option.some.inj (Tryd.func7.symm.trans hfn)).symm
  refine ⟨by kernel_rfl, fun j t ht => ?_⟩
  rw [Tryd.params7] at ht
  have ht2 : t = 9 := by simpa [or_assoc] using Array.mem_of_getElem? ht
  rcases ht2 with rfl
  · exact (show Tryd.prog.wantsStandIn 9 = false by kernel_rfl)

theorem tokenSplits_holds : Rows.TokenSplitsUptoCardSaid :=
  Claim7.holds_tied_plain_at .later [] _ _ _ _ tokenSplits_said (fun _ h => by cases h) (by kernel_rfl) (fun _ h => by cases h) tokenSplitsUpto_row_tie rfl ⟨rfl, rfl⟩ (by kernel_rfl) rfl tokenSplits_plain (by kernel_rfl)
#print axioms tokenSplits_holds
end Go.Proofs.YtkooijhdjjdigaaDoor
