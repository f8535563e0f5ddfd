/- Proved here: for all rows a and b and all lists of orders the Go function bureaulaw04.RecordCmp returns true: Cmp and Same answer what the document says, and the rows stay as they were. The card: the library's tables, as they are listed, lie in memory as the text lays them. -/
import Derived.Test.YtfjmoiooonialaaDoorEI
namespace Go.Proofs.YtfjmoiooonialaaDoor
open Go.ChangeShapes Go.WideShapes Go.ChangeAt Go.RowKit
open Go.ChangeMaps (open_string shut_string)
set_option linter.unusedVariables false

set_option maxRecDepth 100000 in
theorem rcmpc_contract (H : Type) (enc : TypeId × Value → H) (W : World) (base : Nat) (args : Array Value) (ds gs : List (DataW H)) (before : List MemPlace)
    (hval : ∀ (j : Nat) t v, Tryd.f3.params[j]? = some t → args[j]? = some v → Value.okWide Tryd.prog W .any base t v)
    (hW : DataW.Whole enc Tryd.prog Tryd.f3.params.toList Rows.recordCmpSpec.vars false W args.toList ds gs before) (hsz : (DataW.weightsEach Tryd.prog (Tryd.f3.params.toList ++ (OpenSpec.ofChange Rows.recordCmpSpec).bare.plain.varTypes Tryd.prog) (ds ++ gs)).all (· ≤ reachBytes) = true) (hL : laidMetH Tryd.prog Rows.recordCmpRow.laid W) (hsh : W.ShapedOpen Tryd.prog) :
    Calls Tryd.prog 3 args W fun e W' => ∃ v, e = .returned v ∧ Rows.recordCmpSpec.post enc Tryd.prog Tryd.f3 false true false false W args v W' := by
  have hW' := hW
  obtain ⟨p, q, hA0, hV, rfl, hfz, hnd⟩ := hW
  have hA : DataW.TrodAll enc Tryd.prog W 0 (fun _ => true) true Tryd.f3.params.toList args.toList ds p := hA0
  rw [Tryd.params3] at hA hval
  obtain ⟨v0, vs0, d0, ds0, p0, q0, hargs, rfl, rfl, h0, r0⟩ := trodAll_cons hA
  obtain ⟨v1, vs1, d1, ds1, p1, q1, rfl, rfl, rfl, h1, r1⟩ := trodAll_cons r0
  obtain ⟨v2, vs2, d2, ds2, p2, q2, rfl, rfl, rfl, h2, r2⟩ := trodAll_cons r1
  obtain ⟨rfl, rfl, rfl⟩ := trodAll_nil r2
  obtain rfl : args = #[v0, v1, v2] := by cases args; simp_all
  obtain ⟨rfl, rfl⟩ := trodVars_none hV
  obtain ⟨a0, len0, cap0, rfl⟩ := okWide_slice Tryd.underlying22 (hval 0 22 v0 rfl rfl)
  obtain ⟨a1, len1, cap1, rfl⟩ := okWide_slice Tryd.underlying22 (hval 1 22 v1 rfl rfl)
  obtain ⟨a2, len2, cap2, rfl⟩ := okWide_slice Tryd.underlying23 (hval 2 23 v2 rfl rfl)
  simp only [List.append_nil] at hW'
  have hlt0 : ∀ x ∈ p0, x.block < W.heap.size := fun x hx => hW'.lt x (by simp [hx])
  have h0k : DataW.Trod enc Tryd.prog W 0 (fun _ => true) true 22 (.slice a0 len0 cap0) d0 p0 := h0
  have hargs0 : ∀ (W' : World), Below W.heap.size W W' → DataW.Trod enc Tryd.prog W' 0 (fun b => decide (b < W.heap.size)) true 22 (.slice a0 len0 cap0) d0 p0 :=
    fun W' hn => Below.trod laidOutD (by kernel_rfl) (of_decide_eq_true (by kernel_rfl)) h0k hn hlt0
  have hlt1 : ∀ x ∈ p1, x.block < W.heap.size := fun x hx => hW'.lt x (by simp [hx])
  have h1k : DataW.Trod enc Tryd.prog W 0 (fun _ => true) true 22 (.slice a1 len1 cap1) d1 p1 := h1
  have hargs1 : ∀ (W' : World), Below W.heap.size W W' → DataW.Trod enc Tryd.prog W' 0 (fun b => decide (b < W.heap.size)) true 22 (.slice a1 len1 cap1) d1 p1 :=
    fun W' hn => Below.trod laidOutD (by kernel_rfl) (of_decide_eq_true (by kernel_rfl)) h1k hn hlt1
  have hlt2 : ∀ x ∈ p2, x.block < W.heap.size := fun x hx => hW'.lt x (by simp [hx])
  have h2k : DataW.Trod enc Tryd.prog W 0 (fun _ => true) true 23 (.slice a2 len2 cap2) d2 p2 := h2
  have hargs2 : ∀ (W' : World), Below W.heap.size W W' → DataW.Trod enc Tryd.prog W' 0 (fun b => decide (b < W.heap.size)) true 23 (.slice a2 len2 cap2) d2 p2 :=
    fun W' hn => Below.trod laidOutD (by kernel_rfl) (of_decide_eq_true (by kernel_rfl)) h2k hn hlt2
  have hcall : Calls Tryd.prog 3 #[.slice a0 len0 cap0, .slice a1 len1 cap1, .slice a2 len2 cap2] W fun e w' => e = .returned (.bool true) ∧ Below W.heap.size W w' := by
    have hR0 : ∃ K N T, RowP W a0 len0 K N T ∧ (a0 = none → cap0 = 0) := by
      obtain ⟨fuel, hf⟩ := h0
      rcases open_row hf with hcs | ⟨a, cap', hcs⟩ | ⟨b, o, len', cap', K, N, T, el, sp, hcs, hp, hx, hel, hrow⟩
      · simp [Value.cells] at hcs
        obtain ⟨rfl, rfl, rfl⟩ := hcs
        exact ⟨fun _ => 0, fun _ => 0, fun _ => ⟨#[]⟩, fun h => by omega, fun _ => rfl⟩
      · simp [Value.cells] at hcs
        obtain ⟨rfl, rfl, rfl⟩ := hcs
        exact ⟨fun _ => 0, fun _ => 0, fun _ => ⟨#[]⟩, fun h => by omega, fun h => by cases h⟩
      · simp [Value.cells] at hcs
        obtain ⟨rfl, rfl, rfl⟩ := hcs
        exact ⟨K, N, T, fun _ => ⟨b, o, rfl, hrow⟩, fun h => by cases h⟩
    have hR1 : ∃ K N T, RowP W a1 len1 K N T ∧ (a1 = none → cap1 = 0) := by
      obtain ⟨fuel, hf⟩ := h1
      rcases open_row hf with hcs | ⟨a, cap', hcs⟩ | ⟨b, o, len', cap', K, N, T, el, sp, hcs, hp, hx, hel, hrow⟩
      · simp [Value.cells] at hcs
        obtain ⟨rfl, rfl, rfl⟩ := hcs
        exact ⟨fun _ => 0, fun _ => 0, fun _ => ⟨#[]⟩, fun h => by omega, fun _ => rfl⟩
      · simp [Value.cells] at hcs
        obtain ⟨rfl, rfl, rfl⟩ := hcs
        exact ⟨fun _ => 0, fun _ => 0, fun _ => ⟨#[]⟩, fun h => by omega, fun h => by cases h⟩
      · simp [Value.cells] at hcs
        obtain ⟨rfl, rfl, rfl⟩ := hcs
        exact ⟨K, N, T, fun _ => ⟨b, o, rfl, hrow⟩, fun h => by cases h⟩
    have hR2 : ∃ C D, OrdP W a2 len2 C D ∧ (a2 = none → len2 = 0 ∧ cap2 = 0) ∧ len2 * 16 ≤ 140737488355328 := by
      obtain ⟨fuel, hf⟩ := h2
      rcases open_ords hf with hcs | ⟨a, cap', hcs⟩ | ⟨b, o, len', cap', C, D, el, sp, hcs, hp, hx, hel, hrow⟩
      · simp [Value.cells] at hcs
        obtain ⟨rfl, rfl, rfl⟩ := hcs
        exact ⟨fun _ => 0, fun _ => false, fun h => by omega, fun _ => ⟨rfl, rfl⟩, by omega⟩
      · simp [Value.cells] at hcs
        obtain ⟨rfl, rfl, rfl⟩ := hcs
        exact ⟨fun _ => 0, fun _ => false, fun h => by omega, (fun h => by cases h), by omega⟩
      · simp [Value.cells] at hcs
        obtain ⟨rfl, rfl, rfl⟩ := hcs
        have hd : d2 = .slice el sp := hx
        subst hd
        have h := sized_slice (j := 2) (t := 23) (e := 29) hsz (by rw [Tryd.params3]; rfl) rfl Tryd.underlying23
        rw [bytesO, hel] at h
        exact ⟨C, D, fun _ => ⟨b, o, rfl, hrow⟩, (fun h => by cases h), Nat.le_trans (Nat.mul_le_mul_right 16 (Nat.le_add_right _ _)) (Nat.le_trans h (by decide))⟩
    obtain ⟨K, N, T, hra, hpa⟩ := hR0
    obtain ⟨K2, N2, T2, hrb, hpb⟩ := hR1
    obtain ⟨C, D, hrc, hpc, hlc⟩ := hR2
    by_cases hfar : 2000 < len0 ∨ 2000 < len1
    · exact rc_far a0 a1 a2 len0 cap0 len1 cap1 len2 cap2 hfar W
    · exact rc_near a0 a1 a2 len0 cap0 len1 cap1 len2 cap2 hpa hpb hpc K N T K2 N2 T2 C D (by omega) (by omega) hlc W hra hrb hrc
  clear hA0 hsz
  refine hcall.mono fun e W' ⟨he, bel⟩ => ?_
  subst he
  have hfin : DataW.TrodAll enc Tryd.prog W' 0 (fun b => decide (b < W.heap.size)) true [22, 22, 23] [.slice a0 len0 cap0, .slice a1 len1 cap1, .slice a2 len2 cap2] [d0, d1, d2] (p0 ++ p1 ++ p2) := by
    simpa using (trodAll_cons_mk (hargs0 W' bel) (trodAll_cons_mk (hargs1 W' bel) (trodAll_cons_mk (hargs2 W' bel) trodAll_mk0)))
  exact ⟨_, rfl, _, _, _, [], _, [], hW', trodAll_mk1 (shut_bool Tryd.underlying4 _), hfin, rfl, bel.frame _, fun h => by cases h⟩

/-- A world for the witness: every listed variable as it is listed. -/
noncomputable def rcmpcWorld (os : Os) : World := World.laidAll Tryd.prog os Rows.recordCmpRow.laid
theorem rcmpc_met (os : Os) (args : Array Value) : laidMetH Tryd.prog Rows.recordCmpRow.laid ((rcmpcWorld os).forCall (fun _ _ => 0) ⟨#[], args, []⟩).memory := by
  rw [MakeChecks.laidMetH_plain _ _ _ (by kernel_rfl)]
  exact laidMet_laidAll _ (by kernel_rfl) (by kernel_rfl)
noncomputable def rcmpcArgs : Array Value := #[.slice none 0 0, .slice none 0 0, .slice none 0 0]
theorem rcmpc_reads (os : Os) {H : Type} (enc : TypeId × Value → H) : ∃ places, DataW.whole enc Tryd.prog ((rcmpcWorld os).forCall (fun _ _ => 0) ⟨#[], rcmpcArgs, []⟩).memory Tryd.f3.params.toList Rows.recordCmpSpec.vars false rcmpcArgs.toList 8 =
    some ([.nil, .nil, .nil], [], places) :=
  ⟨[], by kernel_rfl⟩

set_option maxRecDepth 100000 in
theorem rcmpc_lifted (os : Os) (started : os.Started) (H : Type) (enc : TypeId × Value → H) (F : Stop.Interp) :
    ReturnsInHanded {} Tryd.checked os 3 .any ((OpenSpec.ofChange Rows.recordCmpSpec).preRow enc Tryd.prog Tryd.f3 Rows.recordCmpRow.domain false Rows.recordCmpRow.laid) (((OpenSpec.ofChange Rows.recordCmpSpec).at F).post enc Tryd.prog Tryd.f3 false true false false) := by
  obtain ⟨places, hx⟩ := rcmpc_reads os enc
  refine returnsInHanded_of_row (C := Tryd.checked) (s := OpenSpec.ofChange Rows.recordCmpSpec) ownK started (by kernel_rfl) Tryd.func3
    (witness_row_at (enc := enc) (C := Tryd.checked) false (rcmpcWorld os) rcmpcArgs (World.laidAll_os _ _ _) (by kernel_rfl) (by kernel_rfl) (by kernel_rfl)
      (OpenSpec.preRow_of_cond 8 hx (by kernel_rfl) (fun k hk => by cases hk) (by kernel_rfl) (rcmpc_met os _))) ?_
  intro W base args ds gs before hval hW _ _ hsz hL hsh _
  exact rcmpc_contract H enc W base args ds gs before hval hW hsz hL hsh

theorem rcmpc_said : Rows.RecordCmpSaid :=
  OpenClaim.holds_of_cond 3 Tryd.f3 rfl rfl rfl rfl rfl rfl rfl ⟨rfl, rfl, rfl, rfl, rfl⟩ rfl rfl rfl rfl rfl (by kernel_rfl) Tryd.func3 (by kernel_rfl)
    (of_decide_eq_true (by kernel_rfl)) (by unfold Func.isWrapper; first | (rw [if_pos (by decide +kernel)]; kernel_rfl) | (rw [if_neg (by decide +kernel)]; exact ⟨rfl, rfl⟩))
    (fun os started H enc _ F => by rw [OpenClaim.pre_eq_preRow]; exact rcmpc_lifted os started H enc F)

theorem rcmpc_plain (f : FuncId) (fn : Func) (hf : Tryd.pinned.checked.prog.funcNamed "bureau/bureaulaw04.RecordCmp" = some f) (hfn : Tryd.pinned.checked.prog.funcs[f]? = some fn) :
    false = Tryd.pinned.checked.prog.looks [] ∧ ∀ (j : Nat) t, fn.params[j]? = some t → Tryd.pinned.checked.prog.wantsStandIn t = false := by
  obtain rfl : f = 3 := Option.some.inj ((show Tryd.prog.funcNamed "bureau/bureaulaw04.RecordCmp" = some 3 by kernel_rfl).symm.trans hf) |>.symm
  obtain rfl : fn = Tryd.f3 := (Option.some.inj (Tryd.func3.symm.trans hfn)).symm
  refine ⟨by kernel_rfl, fun j t ht => ?_⟩
  rw [Tryd.params3] at ht
  have ht2 : t = 22 ∨ t = 22 ∨ t = 23 := by simpa [or_assoc] using Array.mem_of_getElem? ht
  rcases ht2 with rfl | rfl | rfl
  · exact (show Tryd.prog.wantsStandIn 22 = false by kernel_rfl)
  · exact (show Tryd.prog.wantsStandIn 22 = false by kernel_rfl)
  · exact (show Tryd.prog.wantsStandIn 23 = false by kernel_rfl)

theorem recordCmp_holds : Rows.RecordCmpCardSaid :=
  Claim7.holds_tied_plain_at .later [] _ _ _ _ rcmpc_said (fun _ h => by cases h) (by kernel_rfl) (fun _ h => by cases h) recordCmp_row_tie rfl ⟨rfl, rfl⟩ (by kernel_rfl) rfl rcmpc_plain (by kernel_rfl)
#print axioms recordCmp_holds
end Go.Proofs.YtfjmoiooonialaaDoor
