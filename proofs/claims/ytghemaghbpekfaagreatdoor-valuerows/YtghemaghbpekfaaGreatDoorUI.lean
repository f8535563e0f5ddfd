/- Proved here: for all rows a and b and all lists of numbers colls the Go function bureaulaw02.ValueRows returns true: CmpRows and PrintRow answer what the document says. The card: the library's tables and error values, as they are listed, lie in memory as the text lays them. -/
import Derived.Test.YtghemaghbpekfaaGreatDoorUH
namespace Go.Proofs.YtghemaghbpekfaaGreatDoor
open Go.ChangeShapes Go.WideShapes Go.ChangeAt Go.RowKit
open Go.ChangeMaps (open_string shut_string)
set_option linter.unusedVariables false

set_option maxRecDepth 100000 in
theorem vrowsc_contract (H : Type) (enc : TypeId × Value → H) (W : World) (base : Nat) (args : Array Value) (ds gs : List (DataW H)) (before : List MemPlace)
    (hval : ∀ (j : Nat) t v, Tryz.f4.params[j]? = some t → args[j]? = some v → Value.okWide Tryz.prog W .any base t v)
    (hW : DataW.Whole enc Tryz.prog Tryz.f4.params.toList Rows.valueRowsSpec.vars false W args.toList ds gs before) (hsz : (DataW.weightsEach Tryz.prog (Tryz.f4.params.toList ++ (OpenSpec.ofChange Rows.valueRowsSpec).bare.plain.varTypes Tryz.prog) (ds ++ gs)).all (· ≤ reachBytes) = true) (hL : laidMetH Tryz.prog Rows.valueRowsRow.laid W) (hsh : W.ShapedOpen Tryz.prog) :
    Calls Tryz.prog 4 args W fun e W' => ∃ v, e = .returned v ∧ Rows.valueRowsSpec.post enc Tryz.prog Tryz.f4 false true false false W args v W' := by
  have hW' := hW
  obtain ⟨p, q, hA0, hV, rfl, hfz, hnd⟩ := hW
  have hA : DataW.TrodAll enc Tryz.prog W 0 (fun _ => true) true Tryz.f4.params.toList args.toList ds p := hA0
  rw [Tryz.params4] at hA hval
  obtain ⟨v0, vs0, d0, ds0, p0, q0, hargs, rfl, rfl, h0, r0⟩ := trodAll_cons hA
  obtain ⟨v1, vs1, d1, ds1, p1, q1, rfl, rfl, rfl, h1, r1⟩ := trodAll_cons r0
  obtain ⟨v2, vs2, d2, ds2, p2, q2, rfl, rfl, rfl, h2, r2⟩ := trodAll_cons r1
  obtain ⟨rfl, rfl, rfl⟩ := trodAll_nil r2
  obtain rfl : args = #[v0, v1, v2] := by cases args; simp_all
  obtain ⟨rfl, rfl⟩ := trodVars_none hV
  obtain ⟨a0, len0, cap0, rfl⟩ := okWide_slice Tryz.underlying31 (hval 0 31 v0 rfl rfl)
  obtain ⟨a1, len1, cap1, rfl⟩ := okWide_slice Tryz.underlying31 (hval 1 31 v1 rfl rfl)
  obtain ⟨a2, len2, cap2, rfl⟩ := okWide_slice Tryz.underlying32 (hval 2 32 v2 rfl rfl)
  simp only [List.append_nil] at hW'
  have hlt0 : ∀ x ∈ p0, x.block < W.heap.size := fun x hx => hW'.lt x (by simp [hx])
  have h0k : DataW.Trod enc Tryz.prog W 0 (fun _ => true) true 31 (.slice a0 len0 cap0) d0 p0 := h0
  have hargs0 : ∀ (W' : World), Below W.heap.size W W' → DataW.Trod enc Tryz.prog W' 0 (fun b => decide (b < W.heap.size)) true 31 (.slice a0 len0 cap0) d0 p0 :=
    fun W' hn => Below.trod laidOutD (by kernel_rfl) (of_decide_eq_true (by kernel_rfl)) h0k hn hlt0
  have hlt1 : ∀ x ∈ p1, x.block < W.heap.size := fun x hx => hW'.lt x (by simp [hx])
  have h1k : DataW.Trod enc Tryz.prog W 0 (fun _ => true) true 31 (.slice a1 len1 cap1) d1 p1 := h1
  have hargs1 : ∀ (W' : World), Below W.heap.size W W' → DataW.Trod enc Tryz.prog W' 0 (fun b => decide (b < W.heap.size)) true 31 (.slice a1 len1 cap1) d1 p1 :=
    fun W' hn => Below.trod laidOutD (by kernel_rfl) (of_decide_eq_true (by kernel_rfl)) h1k hn hlt1
  have hlt2 : ∀ x ∈ p2, x.block < W.heap.size := fun x hx => hW'.lt x (by simp [hx])
  have h2k : DataW.Trod enc Tryz.prog W 0 (fun _ => true) true 32 (.slice a2 len2 cap2) d2 p2 := h2
  have hargs2 : ∀ (W' : World), Below W.heap.size W W' → DataW.Trod enc Tryz.prog W' 0 (fun b => decide (b < W.heap.size)) true 32 (.slice a2 len2 cap2) d2 p2 :=
    fun W' hn => Below.trod laidOutD (by kernel_rfl) (of_decide_eq_true (by kernel_rfl)) h2k hn hlt2
  have hE := env_of hL hsh
  have hcall : Calls Tryz.prog 4 #[.slice a0 len0 cap0, .slice a1 len1 cap1, .slice a2 len2 cap2] W fun e w' => e = .returned (.bool true) ∧ Below W.heap.size W w' := by
    have hR0 : ∃ la K N T, RowIs W (.slice a0 len0 cap0) la K N T ∧ la * 32 ≤ 140737488355328 ∧ inRow la N := by
      obtain ⟨fuel, hf⟩ := h0
      rcases open_row hf with hcs | ⟨a, cap', hcs⟩ | ⟨b, o, len', cap', K, N, T, el, sp, hcs, hp, hx, hel, hrow, hin⟩
      · simp [Value.cells] at hcs
        obtain ⟨rfl, rfl, rfl⟩ := hcs
        exact ⟨0, fun _ => 0, fun _ => 0, fun _ => ⟨#[]⟩, .inl ⟨rfl, .inl rfl⟩, by omega, fun i hi => by omega⟩
      · simp [Value.cells] at hcs
        obtain ⟨rfl, rfl, rfl⟩ := hcs
        exact ⟨0, fun _ => 0, fun _ => 0, fun _ => ⟨#[]⟩, .inl ⟨rfl, .inr ⟨a, _, rfl⟩⟩, by omega, fun i hi => by omega⟩
      · simp [Value.cells] at hcs
        obtain ⟨rfl, rfl, rfl⟩ := hcs
        have hd : d0 = .slice el sp := hx
        subst hd
        have h := sized_slice (j := 0) (t := 31) (e := 24) hsz (by rw [Tryz.params4]; rfl) rfl Tryz.underlying31
        rw [bytesV, hel] at h
        exact ⟨len0, K, N, T, .inr ⟨hp, b, o, _, rfl, hrow⟩, Nat.le_trans (Nat.mul_le_mul_right 32 (Nat.le_add_right _ _)) (Nat.le_trans h (by decide)), hin⟩
    have hR1 : ∃ la K N T, RowIs W (.slice a1 len1 cap1) la K N T ∧ la * 32 ≤ 140737488355328 ∧ inRow la N := by
      obtain ⟨fuel, hf⟩ := h1
      rcases open_row hf with hcs | ⟨a, cap', hcs⟩ | ⟨b, o, len', cap', K, N, T, el, sp, hcs, hp, hx, hel, hrow, hin⟩
      · simp [Value.cells] at hcs
        obtain ⟨rfl, rfl, rfl⟩ := hcs
        exact ⟨0, fun _ => 0, fun _ => 0, fun _ => ⟨#[]⟩, .inl ⟨rfl, .inl rfl⟩, by omega, fun i hi => by omega⟩
      · simp [Value.cells] at hcs
        obtain ⟨rfl, rfl, rfl⟩ := hcs
        exact ⟨0, fun _ => 0, fun _ => 0, fun _ => ⟨#[]⟩, .inl ⟨rfl, .inr ⟨a, _, rfl⟩⟩, by omega, fun i hi => by omega⟩
      · simp [Value.cells] at hcs
        obtain ⟨rfl, rfl, rfl⟩ := hcs
        have hd : d1 = .slice el sp := hx
        subst hd
        have h := sized_slice (j := 1) (t := 31) (e := 24) hsz (by rw [Tryz.params4]; rfl) rfl Tryz.underlying31
        rw [bytesV, hel] at h
        exact ⟨len1, K, N, T, .inr ⟨hp, b, o, _, rfl, hrow⟩, Nat.le_trans (Nat.mul_le_mul_right 32 (Nat.le_add_right _ _)) (Nat.le_trans h (by decide)), hin⟩
    obtain ⟨la, K, N, T, hra, hla, hin⟩ := hR0
    obtain ⟨lb, K2, N2, T2, hrb, hlb, -⟩ := hR1
    obtain ⟨fuel, hf⟩ := h2
    rcases open_ints hf with hcs | ⟨a, cap', hcs⟩ | ⟨b, o, len', cap', C, el, sp, hcs, hp, hx, hel, hrow⟩
    · simp [Value.cells] at hcs
      obtain ⟨rfl, rfl, rfl⟩ := hcs
      exact vrows_n _ _ la lb K N T K2 N2 T2 hla hlb hin none 0 W hE hra hrb
    · simp [Value.cells] at hcs
      obtain ⟨rfl, rfl, rfl⟩ := hcs
      exact vrows_n _ _ la lb K N T K2 N2 T2 hla hlb hin (some a) _ W hE hra hrb
    · simp [Value.cells] at hcs
      obtain ⟨rfl, rfl, rfl⟩ := hcs
      have hd : d2 = .slice el sp := hx
      have hlen : len2 * 8 ≤ 140737488355328 := by
        subst hd
        have h := sized_slice (j := 2) (t := 32) (e := 3) hsz (by rw [Tryz.params4]; rfl) rfl Tryz.underlying32
        rw [bytes3, hel] at h
        exact Nat.le_trans (Nat.mul_le_mul_right 8 (Nat.le_add_right _ _)) (Nat.le_trans h (by decide))
      exact vrows_c _ _ la lb K N T K2 N2 T2 hla hlb hin b o len2 _ C hlen W hE hra hrb hrow
  clear hA0 hsz
  refine hcall.mono fun e W' ⟨he, bel⟩ => ?_
  subst he
  have hfin : DataW.TrodAll enc Tryz.prog W' 0 (fun b => decide (b < W.heap.size)) true [31, 31, 32] [.slice a0 len0 cap0, .slice a1 len1 cap1, .slice a2 len2 cap2] [d0, d1, d2] (p0 ++ p1 ++ p2) := by
    simpa using (trodAll_cons_mk (hargs0 W' bel) (trodAll_cons_mk (hargs1 W' bel) (trodAll_cons_mk (hargs2 W' bel) trodAll_mk0)))
  exact ⟨_, rfl, _, _, _, [], _, [], hW', trodAll_mk1 (shut_bool Tryz.underlying4 _), hfin, rfl, bel.frame _, fun h => by cases h⟩

/-- A world for the witness: every listed variable as it is listed. -/
noncomputable def vrowscWorld (os : Os) : World := World.laidAll Tryz.prog os Rows.valueRowsRow.laid
theorem vrowsc_met (os : Os) (args : Array Value) : laidMetH Tryz.prog Rows.valueRowsRow.laid ((vrowscWorld os).forCall (fun _ _ => 0) ⟨#[], args, []⟩).memory := by
  rw [MakeChecks.laidMetH_plain _ _ _ (by kernel_rfl)]
  exact laidMet_laidAll _ (by kernel_rfl) (by kernel_rfl)
noncomputable def vrowscArgs : Array Value := #[.slice none 0 0, .slice none 0 0, .slice none 0 0]
theorem vrowsc_reads (os : Os) {H : Type} (enc : TypeId × Value → H) : ∃ places, DataW.whole enc Tryz.prog ((vrowscWorld os).forCall (fun _ _ => 0) ⟨#[], vrowscArgs, []⟩).memory Tryz.f4.params.toList Rows.valueRowsSpec.vars false vrowscArgs.toList 8 =
    some ([.nil, .nil, .nil], [], places) :=
  ⟨[], by kernel_rfl⟩

set_option maxRecDepth 100000 in
theorem vrowsc_lifted (os : Os) (started : os.Started) (H : Type) (enc : TypeId × Value → H) (F : Stop.Interp) :
    ReturnsInHanded {} Tryz.checked os 4 .any ((OpenSpec.ofChange Rows.valueRowsSpec).preRow enc Tryz.prog Tryz.f4 Rows.valueRowsRow.domain false Rows.valueRowsRow.laid) (((OpenSpec.ofChange Rows.valueRowsSpec).at F).post enc Tryz.prog Tryz.f4 false true false false) := by
  obtain ⟨places, hx⟩ := vrowsc_reads os enc
  refine returnsInHanded_of_row (C := Tryz.checked) (s := OpenSpec.ofChange Rows.valueRowsSpec) own started (by kernel_rfl) Tryz.func4
    (witness_row_at (enc := enc) (C := Tryz.checked) false (vrowscWorld os) vrowscArgs (World.laidAll_os _ _ _) (by kernel_rfl) (by kernel_rfl) (by kernel_rfl)
      (OpenSpec.preRow_of_cond 8 hx (by kernel_rfl) (fun k hk => by cases hk) (by kernel_rfl) (vrowsc_met os _))) ?_
  intro W base args ds gs before hval hW _ _ hsz hL hsh _
  exact vrowsc_contract H enc W base args ds gs before hval hW hsz hL hsh

theorem vrowsc_said : Rows.ValueRowsSaid :=
  OpenClaim.holds_of_cond 4 Tryz.f4 rfl rfl rfl rfl rfl rfl rfl ⟨rfl, rfl, rfl, rfl, rfl⟩ rfl rfl rfl rfl rfl (by kernel_rfl) Tryz.func4 (by kernel_rfl)
    (of_decide_eq_true (by kernel_rfl)) (by unfold Func.isWrapper; first | (rw [if_pos (by decide +kernel)]; kernel_rfl) | (rw [if_neg (by decide +kernel)]; exact ⟨rfl, rfl⟩))
    (fun os started H enc _ F => by rw [OpenClaim.pre_eq_preRow]; exact vrowsc_lifted os started H enc F)

theorem vrowsc_plain (f : FuncId) (fn : Func) (hf : Tryz.pinned.checked.prog.funcNamed "bureau/bureaulaw02.ValueRows" = some f) (hfn : Tryz.pinned.checked.prog.funcs[f]? = some fn) :
    true = Tryz.pinned.checked.prog.looks [] ∧ ∀ (j : Nat) t, fn.params[j]? = some t → Tryz.pinned.checked.prog.wantsStandIn t = false := by
  obtain rfl : f = 4 := Option.some.inj ((show Tryz.prog.funcNamed "bureau/bureaulaw02.ValueRows" = some 4 by kernel_rfl).symm.trans hf) |>.symm
  obtain rfl : fn = Tryz.f4 := (Option.some.inj (Tryz.func4.symm.trans hfn)).symm
  refine ⟨by kernel_rfl, fun j t ht => ?_⟩
  rw [Tryz.params4] at ht
  have ht2 : t = 31 ∨ t = 31 ∨ t = 32 := by simpa [or_assoc] using Array.mem_of_getElem? ht
  rcases ht2 with rfl | rfl | rfl
  · exact (show Tryz.prog.wantsStandIn 31 = false by kernel_rfl)
  · exact (show Tryz.prog.wantsStandIn 31 = false by kernel_rfl)
  · exact (show Tryz.prog.wantsStandIn 32 = false by kernel_rfl)

theorem valueRows_holds : Rows.ValueRowsCardSaid :=
  Claim7.holds_tied_plain_at .later [] _ _ _ _ vrowsc_said (fun _ h => by cases h) (by kernel_rfl) (fun _ h => by cases h) valueRows_row_tie rfl ⟨rfl, rfl⟩ (by kernel_rfl) rfl vrowsc_plain (by kernel_rfl)
#print axioms valueRows_holds
end Go.Proofs.YtghemaghbpekfaaGreatDoor
