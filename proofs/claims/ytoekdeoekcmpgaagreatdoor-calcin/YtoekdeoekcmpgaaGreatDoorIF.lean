/- Proved here: for every value x, every list of values and every number c the Go function bureaulaw03.CalcIn returns true: In answers what the document says. The card: the library's tables and errors hold what their initialisers lay; nothing else is asked. -/
import Derived.Test.YtoekdeoekcmpgaaGreatDoorIE
import Derived.Test.YtoekdeoekcmpgaaGreatDoorXG
namespace Go.Proofs.YtoekdeoekcmpgaaGreatDoor
open Go.ChangeShapes Go.WideShapes Go.ChangeAt Go.RowKit
open Go.ChangeMaps (open_string shut_string)
set_option linter.unusedVariables false

set_option maxRecDepth 100000 in
theorem cin_contract (H : Type) (enc : TypeId × Value → H) (W : World) (base : Nat) (args : Array Value) (ds gs : List (DataW H)) (before : List MemPlace)
    (hval : ∀ (j : Nat) t v, Tryz.f6.params[j]? = some t → args[j]? = some v → Value.okWide Tryz.prog W .any base t v)
    (hW : DataW.Whole enc Tryz.prog Tryz.f6.params.toList Rows.calcInSpec.vars false W args.toList ds gs before) (hsz : (DataW.weightsEach Tryz.prog (Tryz.f6.params.toList ++ (OpenSpec.ofChange Rows.calcInSpec).bare.plain.varTypes Tryz.prog) (ds ++ gs)).all (· ≤ reachBytes) = true) (hL : laidMetH Tryz.prog Rows.calcInRow.laid W) (hsh : W.ShapedOpen Tryz.prog) :
    Calls Tryz.prog 6 args W fun e W' => ∃ v, e = .returned v ∧ Rows.calcInSpec.post enc Tryz.prog Tryz.f6 false true false false W args v W' := by
  have hW' := hW
  obtain ⟨p, q, hA0, hV, rfl, hfz, hnd⟩ := hW
  have hA : DataW.TrodAll enc Tryz.prog W 0 (fun _ => true) true Tryz.f6.params.toList args.toList ds p := hA0
  rw [Tryz.params6] at hA hval
  obtain ⟨v0, vs0, d0, ds0, p0, q0, hargs, rfl, rfl, h0, r0⟩ := trodAll_cons hA
  obtain ⟨v1, vs1, d1, ds1, p1, q1, rfl, rfl, rfl, h1, r1⟩ := trodAll_cons r0
  obtain ⟨v2, vs2, d2, ds2, p2, q2, rfl, rfl, rfl, h2, r2⟩ := trodAll_cons r1
  obtain ⟨rfl, rfl, rfl⟩ := trodAll_nil r2
  obtain rfl : args = #[v0, v1, v2] := by cases args; simp_all
  obtain ⟨rfl, rfl⟩ := trodVars_none hV
  obtain ⟨k0, n0, t0, rfl, rfl, rfl, wk0, wn0, wt0⟩ := open_val (hval 0 24 v0 rfl rfl) h0
  obtain ⟨a1, len1, cap1, rfl⟩ := okWide_slice Tryz.underlying42 (hval 1 42 v1 rfl rfl)
  obtain ⟨m2, rfl, rfl, rfl, wm2⟩ := open_int Tryz.underlying3 (hval 2 3 v2 rfl rfl) h2
  simp only [List.append_nil, List.nil_append] at hW'
  have hlt1 : ∀ x ∈ p1, x.block < W.heap.size := fun x hx => hW'.lt x (by simp [hx])
  have h1k : DataW.Trod enc Tryz.prog W 0 (fun _ => true) true 42 (.slice a1 len1 cap1) d1 p1 := h1
  have hargs1 : ∀ (W' : World), Below W.heap.size W W' → DataW.Trod enc Tryz.prog W' 0 (fun b => decide (b < W.heap.size)) true 42 (.slice a1 len1 cap1) d1 p1 :=
    fun W' hn => Below.trod laidOutD (by kernel_rfl) (of_decide_eq_true (by kernel_rfl)) h1k hn hlt1
  have hE := env_of hL hsh
  have hcall : Calls Tryz.prog 6 #[val k0 n0 t0, .slice a1 len1 cap1, .int .i64 m2] W fun e w' => e = .returned (.bool true) ∧ Below W.heap.size W w' := by
    obtain ⟨fuel, hf⟩ := h1
    rcases open_row hf with hcs | ⟨a, cap', hcs⟩ | ⟨b, o, len', cap', K, N, T, el, sp, hcs, hp, hx, hel, hrow⟩
    · simp [Value.cells] at hcs
      obtain ⟨rfl, rfl, rfl⟩ := hcs
      exact cin_none k0 n0 t0 m2 W hE
    · simp [Value.cells] at hcs
      obtain ⟨rfl, rfl, rfl⟩ := hcs
      exact cin_empty k0 n0 t0 a _ m2 W hE
    · simp [Value.cells] at hcs
      obtain ⟨rfl, rfl, rfl⟩ := hcs
      have hd : d1 = .slice el sp := hx
      have hlen : len1 * 32 ≤ 140737488355328 := by
        subst hd
        have h := sized_slice (j := 1) (t := 42) (e := 24) hsz (by rw [Tryz.params6]; rfl) rfl Tryz.underlying42
        rw [bytesV, hel] at h
        exact Nat.le_trans (Nat.mul_le_mul_right 32 (Nat.le_add_right _ _)) (Nat.le_trans h (by decide))
      exact cin_some k0 n0 t0 b o len1 _ K N T hp hlen m2 W hE hrow
  clear hA0 hsz
  refine hcall.mono fun e W' ⟨he, bel⟩ => ?_
  subst he
  have hfin : DataW.TrodAll enc Tryz.prog W' 0 (fun b => decide (b < W.heap.size)) true [24, 42, 3] [val k0 n0 t0, .slice a1 len1 cap1, .int .i64 m2] [.agg [.lit (.int .i64 k0), .lit (.int .i64 n0), .lit (.string t0.data.toList)], d1, .lit (.int .i64 m2)] (p1) := by
    simpa using (trodAll_cons_mk (shut_val wk0 wn0 wt0) (trodAll_cons_mk (hargs1 W' bel) (trodAll_cons_mk (shut_int Tryz.underlying3 wm2) trodAll_mk0)))
  exact ⟨_, rfl, _, _, _, [], _, [], hW', trodAll_mk1 (shut_bool Tryz.underlying4 _), hfin, rfl, bel.frame _, fun h => by cases h⟩

/-- A world for the witness: every listed variable as it is listed. -/
noncomputable def cinWorld (os : Os) : World := World.laidAll Tryz.prog os Rows.calcInRow.laid
theorem cin_met (os : Os) (args : Array Value) : laidMetH Tryz.prog Rows.calcInRow.laid ((cinWorld os).forCall (fun _ _ => 0) ⟨#[], args, []⟩).memory := by
  rw [MakeChecks.laidMetH_plain _ _ _ (by kernel_rfl)]
  exact laidMet_laidAll _ (by kernel_rfl) (by kernel_rfl)
noncomputable def cinArgs : Array Value := #[val 0 0 ⟨#[]⟩, .slice none 0 0, .int .i64 0]
theorem cin_reads (os : Os) {H : Type} (enc : TypeId × Value → H) : ∃ places, DataW.whole enc Tryz.prog ((cinWorld os).forCall (fun _ _ => 0) ⟨#[], cinArgs, []⟩).memory Tryz.f6.params.toList Rows.calcInSpec.vars false cinArgs.toList 8 =
    some ([.agg [.lit (.int .i64 0), .lit (.int .i64 0), .lit (.string [])], .nil, .lit (.int .i64 0)], [], places) :=
  ⟨[], by kernel_rfl⟩

set_option maxRecDepth 100000 in
theorem cin_lifted (os : Os) (started : os.Started) (H : Type) (enc : TypeId × Value → H) (F : Stop.Interp) :
    ReturnsInHanded {} Tryz.checked os 6 .any ((OpenSpec.ofChange Rows.calcInSpec).preRow enc Tryz.prog Tryz.f6 Rows.calcInRow.domain false Rows.calcInRow.laid) (((OpenSpec.ofChange Rows.calcInSpec).at F).post enc Tryz.prog Tryz.f6 false true false false) := by
  obtain ⟨places, hx⟩ := cin_reads os enc
  refine returnsInHanded_of_row (C := Tryz.checked) (s := OpenSpec.ofChange Rows.calcInSpec) own started (by kernel_rfl) Tryz.func6
    (witness_row_at (enc := enc) (C := Tryz.checked) false (cinWorld os) cinArgs (World.laidAll_os _ _ _) (by kernel_rfl) (by kernel_rfl) (by kernel_rfl)
      (OpenSpec.preRow_of_cond 8 hx (by kernel_rfl) (fun k hk => by cases hk) (by kernel_rfl) (cin_met os _))) ?_
  intro W base args ds gs before hval hW _ _ hsz hL hsh _
  exact cin_contract H enc W base args ds gs before hval hW hsz hL hsh

theorem cin_said : Rows.CalcInSaid :=
  OpenClaim.holds_of_cond 6 Tryz.f6 rfl rfl rfl rfl rfl rfl rfl ⟨rfl, rfl, rfl, rfl, rfl⟩ rfl rfl rfl rfl rfl (by kernel_rfl) Tryz.func6 (by kernel_rfl)
    (of_decide_eq_true (by kernel_rfl)) (by unfold Func.isWrapper; first | (rw [if_pos (by decide +kernel)]; kernel_rfl) | (rw [if_neg (by decide +kernel)]; exact ⟨rfl, rfl⟩))
    (fun os started H enc _ F => by rw [OpenClaim.pre_eq_preRow]; exact cin_lifted os started H enc F)

theorem cin_plain (f : FuncId) (fn : Func) (hf : Tryz.pinned.checked.prog.funcNamed "bureau/bureaulaw03.CalcIn" = some f) (hfn : Tryz.pinned.checked.prog.funcs[f]? = some fn) :
    true = Tryz.pinned.checked.prog.looks [] ∧ ∀ (j : Nat) t, fn.params[j]? = some t → Tryz.pinned.checked.prog.wantsStandIn t = false := by
  obtain rfl : f = 6 := Option.some.inj ((show Tryz.prog.funcNamed "bureau/bureaulaw03.CalcIn" = some 6 by kernel_rfl).symm.trans hf) |>.symm
  obtain rfl : fn = Tryz.f6 := (Option.some.inj (Tryz.func6.symm.trans hfn)).symm
  refine ⟨by kernel_rfl, fun j t ht => ?_⟩
  rw [Tryz.params6] at ht
  have ht2 : t = 24 ∨ t = 42 ∨ t = 3 := by simpa [or_assoc] using Array.mem_of_getElem? ht
  rcases ht2 with rfl | rfl | rfl
  · exact (show Tryz.prog.wantsStandIn 24 = false by kernel_rfl)
  · exact (show Tryz.prog.wantsStandIn 42 = false by kernel_rfl)
  · exact (show Tryz.prog.wantsStandIn 3 = false by kernel_rfl)

theorem calcIn_holds : Rows.CalcInCardSaid :=
  Claim7.holds_tied_plain_at .later [] _ _ _ _ cin_said (fun _ h => by cases h) (by kernel_rfl) (fun _ h => by cases h) calcIn_row_tie rfl ⟨rfl, rfl⟩ (by kernel_rfl) rfl cin_plain (by kernel_rfl)
#print axioms calcIn_holds
end Go.Proofs.YtoekdeoekcmpgaaGreatDoor
