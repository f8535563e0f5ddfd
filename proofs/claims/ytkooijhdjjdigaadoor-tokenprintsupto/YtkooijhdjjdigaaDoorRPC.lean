/- Proved here: for all lists of tokens that hold at most 1048576 values and letters the Go function bureaulaw15.TokenPrints returns true, whatever is in memory but what the row lists. -/
import Derived.Test.YtkooijhdjjdigaaDoorRT
import Derived.Test.YtkooijhdjjdigaaDoorKRe
namespace Go.Proofs.YtkooijhdjjdigaaDoor
open Go.ChangeShapes Go.WideShapes Go.ChangeAt Go.RowKit
open Go.ChangeMaps (open_string shut_string)
set_option linter.unusedVariables false

theorem totL_sum : ∀ (l : List Tg) (B : Nat), (∀ y ∈ l, y.t.length ≤ B) → totL l ≤ l.length * (2 * B + 4)
  | [], B, _ => by simp [totL]
  | x :: l, B, h => by
    have h1 := totL_sum l B (fun y hy => h y (by simp [hy]))
    have h2 := h x (by simp)
    have e : totL (x :: l) = (2 * x.t.length + 4) + totL l := by simp [totL]
    rw [e, List.length_cons, Nat.add_mul, Nat.one_mul]
    omega
theorem prints_w (l : List Tg) (hl : l.length ≤ 1048576) (hx : ∀ y ∈ l, y.t.length ≤ 1048576) (v : Value) (w : World) (hE : Env w) (hv : TgAt w v l) : Calls Tryd.prog 6 #[v] w fun e w' => e = .returned (.bool true) ∧ Below w.heap.size w w' :=
  tokenPrints_e l (Nat.le_trans hl (by decide)) (fun y hy => Nat.le_trans (hx y hy) (by decide)) (Nat.le_trans (totL_sum l 1048576 hx) (Nat.le_trans (Nat.mul_le_mul_right _ hl) (by decide))) v w hE hv (code_scan _) (code_scan _) (code_print l hl hx)
set_option maxRecDepth 100000 in
theorem tokenPrints_contract (H : Type) (enc : TypeId × Value → H) (W : World) (base : Nat) (args : Array Value) (ds gs : List (DataW H)) (before : List MemPlace)
    (hval : ∀ (j : Nat) t v, Tryd.f6.params[j]? = some t → args[j]? = some v → Value.okWide Tryd.prog W .any base t v)
    (hW : DataW.Whole enc Tryd.prog Tryd.f6.params.toList Rows.tokenPrintsSpec.vars false W args.toList ds gs before) (hk : Rows.uptoSmall H (ds ++ gs) = true) (hL : laidMetH Tryd.prog Rows.tokenPrintsUptoRow.laid W) (hsh : W.ShapedOpen Tryd.prog) :
    Calls Tryd.prog 6 args W fun e W' => ∃ v, e = .returned v ∧ Rows.tokenPrintsSpec.post enc Tryd.prog Tryd.f6 false true false false W args v W' := by
  have hW' := hW
  obtain ⟨p, q, hA0, hV, rfl, hfz, hnd⟩ := hW
  have hA : DataW.TrodAll enc Tryd.prog W 0 (fun _ => true) true Tryd.f6.params.toList args.toList ds p := hA0
  rw [Tryd.params6] at hA hval
  obtain ⟨v0, vs0, d0, ds0, p0, q0, hargs, rfl, rfl, h0, r0⟩ := trodAll_cons hA
  obtain ⟨rfl, rfl, rfl⟩ := trodAll_nil r0
  obtain rfl : args = #[v0] := by cases args; simp_all
  obtain ⟨rfl, rfl⟩ := trodVars_none hV
  obtain ⟨a0, len0, cap0, rfl⟩ := okWide_slice Tryd.underlying22 (hval 0 22 v0 rfl rfl)
  simp only [List.append_nil] at hW'
  have hlt0 : ∀ x ∈ p0, x.block < W.heap.size := fun x hx => hW'.lt x (by simp [hx])
  have h0k : DataW.Trod enc Tryd.prog W 0 (fun _ => true) true 22 (.slice a0 len0 cap0) d0 p0 := h0
  have hargs0 : ∀ (W' : World), Below W.heap.size W W' → DataW.Trod enc Tryd.prog W' 0 (fun b => decide (b < W.heap.size)) true 22 (.slice a0 len0 cap0) d0 p0 :=
    fun W' hn => Below.trod laidOutD (by kernel_rfl) (of_decide_eq_true (by kernel_rfl)) h0k hn hlt0
  have hE := env_of hL hsh
  have hcall : Calls Tryd.prog 6 #[.slice a0 len0 cap0] W fun e w' => e = .returned (.bool true) ∧ Below W.heap.size W w' := by
    have hb : Rows.uptoBulk d0 ≤ 1048576 := Nat.le_trans (bulk_mem (by simp)) (small_of hk)
    obtain ⟨fuel, hf⟩ := h0
    obtain ⟨l, hat, hl, hx⟩ := open_tgs (show DataW.trod enc Tryd.prog W 0 (fun _ => true) true fuel 22 [.slice a0 len0 cap0] = some _ by simpa [Value.cells] using hf)
    exact prints_w l (Nat.le_trans hl hb) (fun y hy => Nat.le_trans (hx y hy) hb) _ W hE hat
  clear hA0 hk
  refine hcall.mono fun e W' ⟨he, bel⟩ => ?_
  subst he
  have hfin : DataW.TrodAll enc Tryd.prog W' 0 (fun b => decide (b < W.heap.size)) true [22] [.slice a0 len0 cap0] [d0] (p0) := by
    simpa using (trodAll_cons_mk (hargs0 W' bel) trodAll_mk0)
  exact ⟨_, rfl, _, _, _, [], _, [], hW', trodAll_mk1 (shut_bool Tryd.underlying4 _), hfin, rfl, bel.frame _, fun h => by cases h⟩

/-- A world for the witness: every listed variable as it is listed. -/
noncomputable def tokenPrintsWorld (os : Os) : World := World.laidAll Tryd.prog os Rows.tokenPrintsUptoRow.laid
theorem tokenPrints_met (os : Os) (args : Array Value) : laidMetH Tryd.prog Rows.tokenPrintsUptoRow.laid ((tokenPrintsWorld os).forCall (fun _ _ => 0) ⟨#[], args, []⟩).memory := by
  rw [MakeChecks.laidMetH_plain _ _ _ (by kernel_rfl)]
  exact laidMet_laidAll _ (by kernel_rfl) (by kernel_rfl)
noncomputable def tokenPrintsArgs : Array Value := #[.slice none 0 0]
theorem tokenPrints_reads (os : Os) {H : Type} (enc : TypeId × Value → H) : ∃ places, DataW.whole enc Tryd.prog ((tokenPrintsWorld os).forCall (fun _ _ => 0) ⟨#[], tokenPrintsArgs, []⟩).memory Tryd.f6.params.toList Rows.tokenPrintsSpec.vars false tokenPrintsArgs.toList 8 =
    some ([.nil], [], places) :=
  ⟨[], by kernel_rfl⟩

set_option maxRecDepth 100000 in
theorem tokenPrints_lifted (os : Os) (started : os.Started) (H : Type) (enc : TypeId × Value → H) (F : Stop.Interp) :
    ReturnsInHanded {} Tryd.checked os 6 .any ((Rows.OpenSpec.upto Rows.tokenPrintsSpec).preRow enc Tryd.prog Tryd.f6 Rows.tokenPrintsUptoRow.domain false Rows.tokenPrintsUptoRow.laid) (((Rows.OpenSpec.upto Rows.tokenPrintsSpec).at F).post enc Tryd.prog Tryd.f6 false true false false) := by
  obtain ⟨places, hx⟩ := tokenPrints_reads os enc
  refine returnsInHanded_of_row (C := Tryd.checked) (s := Rows.OpenSpec.upto Rows.tokenPrintsSpec) own started (by kernel_rfl) Tryd.func6
    (witness_row_at (enc := enc) (C := Tryd.checked) false (tokenPrintsWorld os) tokenPrintsArgs (World.laidAll_os _ _ _) (by kernel_rfl) (by kernel_rfl) (by kernel_rfl)
      (OpenSpec.preRow_of_cond 8 hx (by kernel_rfl) (fun k hk => by cases hk; kernel_rfl) (by kernel_rfl) (tokenPrints_met os _))) ?_
  intro W base args ds gs before hval hW _ hcond _ hL hsh _
  exact tokenPrints_contract H enc W base args ds gs before hval hW (hcond _ rfl) hL hsh

theorem tokenPrints_said : Rows.TokenPrintsUptoSaid :=
  OpenClaim.holds_of_cond 6 Tryd.f6 rfl rfl rfl rfl rfl rfl rfl ⟨rfl, rfl, rfl, rfl, rfl⟩ rfl rfl rfl rfl rfl (by kernel_rfl) Tryd.func6 (by kernel_rfl)
    (of_decide_eq_true (by kernel_rfl)) (by unfold Func.isWrapper; first | (rw [if_pos (by decide +kernel)]; kernel_rfl) | (rw [if_neg (by decide +kernel)]; exact ⟨rfl, rfl⟩))
    (fun os started H enc _ F => by rw [OpenClaim.pre_eq_preRow]; exact tokenPrints_lifted os started H enc F)

theorem tokenPrints_plain (f : FuncId) (fn : Func) (hf : Tryd.pinned.checked.prog.funcNamed "bureau/bureaulaw15.TokenPrints" = some f) (hfn : Tryd.pinned.checked.prog.funcs[f]? = some fn) :
    false = Tryd.pinned.checked.prog.looks [] ∧ ∀ (j : Nat) t, fn.params[j]? = some t → Tryd.pinned.checked.prog.wantsStandIn t = false := by
  obtain rfl : f = 6 := Option.some.inj ((show Tryd.prog.funcNamed "bureau/bureaulaw15.TokenPrints" = some 6 by kernel_rfl).symm.trans hf) |>.symm
  obtain rfl : fn = Tryd.f6 := (Option.some.inj (Tryd.func6.symm.trans hfn)).symm
  refine ⟨by kernel_rfl, fun j t ht => ?_⟩
  rw [Tryd.params6] at ht
  have ht2 : t = 22 := by simpa [or_assoc] using Array.mem_of_getElem? ht
  rcases ht2 with rfl
  · exact (show Tryd.prog.wantsStandIn 22 = false by kernel_rfl)

theorem tokenPrints_holds : Rows.TokenPrintsUptoCardSaid :=
  Claim7.holds_tied_plain_at .later [] _ _ _ _ tokenPrints_said (fun _ h => by cases h) (by kernel_rfl) (fun _ h => by cases h) tokenPrintsUpto_row_tie rfl ⟨rfl, rfl⟩ (by kernel_rfl) rfl tokenPrints_plain (by kernel_rfl)
#print axioms tokenPrints_holds
end Go.Proofs.YtkooijhdjjdigaaDoor
