/- Proved here: for all lists of tokens that hold at most 1048576 values and letters the Go function bureaulaw15.TokenRound returns true, whatever is in memory but what the row lists. -/
import Derived.Test.YtkooijhdjjdigaaDoorRT
import Derived.Test.YtkooijhdjjdigaaDoorKZ
namespace Go.Proofs.YtkooijhdjjdigaaDoor
open Go.ChangeShapes Go.WideShapes Go.ChangeAt Go.RowKit
open Go.ChangeMaps (open_string shut_string)
set_option linter.unusedVariables false

theorem rounds_w (l : List Tg) (hl : l.length ≤ 1048576) (hx : ∀ y ∈ l, y.t.length ≤ 1048576) (v : Value) (w : World) (hE : Env w) (hv : TgAt w v l) : Calls Tryd.prog 8 #[v] w fun e w' => e = .returned (.bool true) ∧ Below w.heap.size w w' :=
  tokenRound_e l (Nat.le_trans hl (by decide)) v w hE hv (code_scan _) (code_scan _) (fun x _ => code_scan x) (code_print l hl hx)
set_option maxRecDepth 100000 in
theorem tokenRound_contract (H : Type) (enc : TypeId × Value → H) (W : World) (base : Nat) (args : Array Value) (ds gs : List (DataW H)) (before : List MemPlace)
    (hval : ∀ (j : Nat) t v, Tryd.f8.params[j]? = some t → args[j]? = some v → Value.okWide Tryd.prog W .any base t v)
    (hW : DataW.Whole enc Tryd.prog Tryd.f8.params.toList Rows.tokenRoundSpec.vars false W args.toList ds gs before) (hk : Rows.uptoSmall H (ds ++ gs) = true) (hL : laidMetH Tryd.prog Rows.tokenRoundUptoRow.laid W) (hsh : W.ShapedOpen Tryd.prog) :
    Calls Tryd.prog 8 args W fun e W' => ∃ v, e = .returned v ∧ Rows.tokenRoundSpec.post enc Tryd.prog Tryd.f8 false true false false W args v W' := by
  have hW' := hW
  obtain ⟨p, q, hA0, hV, rfl, hfz, hnd⟩ := hW
  have hA : DataW.TrodAll enc Tryd.prog W 0 (fun _ => true) true Tryd.f8.params.toList args.toList ds p := hA0
  rw [Tryd.params8] at hA hval
  obtain ⟨v0, vs0, d0, ds0, p0, q0, hargs, rfl, rfl, h0, r0⟩ := trodAll_cons hA
  obtain ⟨rfl, rfl, rfl⟩ := trodAll_nil r0
  obtain rfl : args = #[v0] := by cases args; simp_all
  obtain ⟨rfl, rfl⟩ := trodVars_none hV
  obtain ⟨a0, len0, cap0, rfl⟩ := okWide_slice Tryd.underlying22 (hval 0 22 v0 rfl rfl)
  simp only [List.append_nil] at hW'
  have hlt0 : ∀ x ∈ p0, x.block < W.heap.size := fun x hx => hW'.lt x (by simp [hx])
  have h0k : DataW.Trod enc Tryd.prog W 0 (fun _ => true) true 22 (.slice a0 len0 cap0) d0 p0 := h0
  have hargs0 : ∀ (W' : World), Below W.heap.size W W' → DataW.Trod enc Tryd.prog W' 0 (fun b => decide (b < W.heap.size)) true 22 (.slice a0 len0 cap0) d0 p0 :=
    fun W' hn => Below.trod laidOutD (by kernel_rfl) (of_decide_eq_true (by kernel_rfl)) h0k hn hlt0
  have hE := env_of hL hsh
  have hcall : Calls Tryd.prog 8 #[.slice a0 len0 cap0] W fun e w' => e = .returned (.bool true) ∧ Below W.heap.size W w' := by
    have hb : Rows.uptoBulk d0 ≤ 1048576 := Nat.le_trans (bulk_mem (by simp)) (small_of hk)
    obtain ⟨fuel, hf⟩ := h0
    obtain ⟨l, hat, hl, hx⟩ := open_tgs (show DataW.trod enc Tryd.prog W 0 (fun _ => true) true fuel 22 [.slice a0 len0 cap0] = some _ by simpa [Value.cells] using hf)
    exact rounds_w l (Nat.le_trans hl hb) (fun y hy => Nat.le_trans (hx y hy) hb) _ W hE hat
  clear hA0 hk
  refine hcall.mono fun e W' ⟨he, bel⟩ => ?_
  subst he
  have hfin : DataW.TrodAll enc Tryd.prog W' 0 (fun b => decide (b < W.heap.size)) true [22] [.slice a0 len0 cap0] [d0] (p0) := by
    simpa using (trodAll_cons_mk (hargs0 W' bel) trodAll_mk0)
  exact ⟨_, rfl, _, _, _, [], _, [], hW', trodAll_mk1 (shut_bool Tryd.underlying4 _), hfin, rfl, bel.frame _, fun h => by cases h⟩

/-- A world for the witness: every listed variable as it is listed. -/
noncomputable def tokenRoundWorld (os : Os) : World := World.laidAll Tryd.prog os Rows.tokenRoundUptoRow.laid
theorem tokenRound_met (os : Os) (args : Array Value) : laidMetH Tryd.prog Rows.tokenRoundUptoRow.laid ((tokenRoundWorld os).forCall (fun _ _ => 0) ⟨#[], args, []⟩).memory := by
  rw [MakeChecks.laidMetH_plain _ _ _ (by kernel_rfl)]
  exact laidMet_laidAll _ (by kernel_rfl) (by kernel_rfl)
noncomputable def tokenRoundArgs : Array Value := #[.slice none 0 0]
theorem tokenRound_reads (os : Os) {H : Type} (enc : TypeId × Value → H) : ∃ places, DataW.whole enc Tryd.prog ((tokenRoundWorld os).forCall (fun _ _ => 0) ⟨#[], tokenRoundArgs, []⟩).memory Tryd.f8.params.toList Rows.tokenRoundSpec.vars false tokenRoundArgs.toList 8 =
    some ([.nil], [], places) :=
  ⟨[], by kernel_rfl⟩

set_option maxRecDepth 100000 in
theorem tokenRound_lifted (os : Os) (started : os.Started) (H : Type) (enc : TypeId × Value → H) (F : Stop.Interp) :
    ReturnsInHanded {} Tryd.checked os 8 .any ((Rows.OpenSpec.upto Rows.tokenRoundSpec).preRow enc Tryd.prog Tryd.f8 Rows.tokenRoundUptoRow.domain false Rows.tokenRoundUptoRow.laid) (((Rows.OpenSpec.upto Rows.tokenRoundSpec).at F).post enc Tryd.prog Tryd.f8 false true false false) := by
  obtain ⟨places, hx⟩ := tokenRound_reads os enc
  refine returnsInHanded_of_row (C := Tryd.checked) (s := Rows.OpenSpec.upto Rows.tokenRoundSpec) own started (by kernel_rfl) Tryd.func8
    (witness_row_at (enc := enc) (C := Tryd.checked) false (tokenRoundWorld os) tokenRoundArgs (World.laidAll_os _ _ _) (by kernel_rfl) (by kernel_rfl) (by kernel_rfl)
      (OpenSpec.preRow_of_cond 8 hx (by kernel_rfl) (fun k hk => by cases hk; kernel_rfl) (by kernel_rfl) (tokenRound_met os _))) ?_
  intro W base args ds gs before hval hW _ hcond _ hL hsh _
  exact tokenRound_contract H enc W base args ds gs before hval hW (hcond _ rfl) hL hsh

theorem tokenRound_said : Rows.TokenRoundUptoSaid :=
  OpenClaim.holds_of_cond 8 Tryd.f8 rfl rfl rfl rfl rfl rfl rfl ⟨rfl, rfl, rfl, rfl, rfl⟩ rfl rfl rfl rfl rfl (by kernel_rfl) Tryd.func8 (by kernel_rfl)
    (of_decide_eq_true (by kernel_rfl)) (by unfold Func.isWrapper; first | (rw [if_pos (by decide +kernel)]; kernel_rfl) | (rw [if_neg (by decide +kernel)]; exact ⟨rfl, rfl⟩))
    (fun os started H enc _ F => by rw [OpenClaim.pre_eq_preRow]; exact tokenRound_lifted os started H enc F)

theorem tokenRound_plain (f : FuncId) (fn : Func) (hf : Tryd.pinned.checked.prog.funcNamed "bureau/bureaulaw15.TokenRound" = some f) (hfn : Tryd.pinned.checked.prog.funcs[f]? = some fn) :
    false = Tryd.pinned.checked.prog.looks [] ∧ ∀ (j : Nat) t, fn.params[j]? = some t → Tryd.pinned.checked.prog.wantsStandIn t = false := by
  obtain rfl : f = 8 := Option.some.inj ((show Tryd.prog.funcNamed "bureau/bureaulaw15.TokenRound" = some 8 by kernel_rfl).symm.trans hf) |>.symm
  obtain rfl : fn = Tryd.f8 := (Option.some.inj (Tryd.func8.symm.trans hfn)).symm
  refine ⟨by kernel_rfl, fun j t ht => ?_⟩
  rw [Tryd.params8] at ht
  have ht2 : t = 22 := by simpa [or_assoc] using Array.mem_of_getElem? ht
  rcases ht2 with rfl
  · exact (show Tryd.prog.wantsStandIn 22 = false by kernel_rfl)

theorem tokenRound_holds : Rows.TokenRoundUptoCardSaid :=
  Claim7.holds_tied_plain_at .later [] _ _ _ _ tokenRound_said (fun _ h => by cases h) (by kernel_rfl) (fun _ h => by cases h) tokenRoundUpto_row_tie rfl ⟨rfl, rfl⟩ (by kernel_rfl) rfl tokenRound_plain (by kernel_rfl)
#print axioms tokenRound_holds
end Go.Proofs.YtkooijhdjjdigaaDoor
