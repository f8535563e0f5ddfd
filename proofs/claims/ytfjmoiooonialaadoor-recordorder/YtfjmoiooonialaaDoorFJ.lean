/- Proved here: for all rows a, b and c and all lists of orders the Go function bureaulaw04.RecordOrder returns true: rows are held in an order. The card: the library's tables, as they are listed, lie in memory as the text lays them. -/
import Derived.Test.YtfjmoiooonialaaDoorEI
import Derived.Test.YtfjmoiooonialaaDoorFI
namespace Go.Proofs.YtfjmoiooonialaaDoor
open Go.ChangeShapes Go.WideShapes Go.ChangeAt Go.RowKit Go.Deep
open Go.ChangeMaps (open_string shut_string)
set_option linter.unusedVariables false

theorem wf_inI {n : Int} (h : (Lit.int .i64 n).wf = true) : InI n := by
  have := h
  simp only [Lit.wf, Bool.and_eq_true, decide_eq_true_eq] at this
  have e1 : IntKind.i64.min = -9223372036854775808 := by decide
  have e2 : IntKind.i64.max = 9223372036854775807 := by decide
  rw [e1, e2] at this
  exact this

set_option maxRecDepth 100000 in
theorem open_rowI {H : Type} {enc : TypeId × Value → H} {w : World} {fuel : Nat} {cs : List Value} {x : DataW H × List MemPlace} (h : DataW.trod enc Tryd.prog w 0 (fun _ => true) true fuel 22 cs = some x) :
    cs = [.slice none 0 0] ∨ (∃ a cap, cs = [.slice (some a) 0 cap]) ∨
    ∃ (b o len cap : Nat) (K N : Nat → Int) (T : Nat → ByteArray) (el sp : List (DataW H)), cs = [.slice (some ⟨b, o, none⟩) len cap] ∧ 0 < len ∧ x.1 = .slice el sp ∧ el.length = len ∧ RowAt w b o len K N T ∧ ∀ i, i < len → InI (N i) := by
  rcases open_slice Tryd.underlying22 h with h0 | ⟨a, len, cap, m, n, D, Pl, rfl, hb, hl, hm, hmm, rfl, hx⟩
  · exact Or.inl h0.1
  right
  simp only [if_true] at hmm
  by_cases h0 : len = 0
  · subst h0; exact Or.inl ⟨a, cap, rfl⟩
  right
  have each : ∀ i, i < m → ∃ q : Int × Int × ByteArray, w.cell? (a.add (i * 3)) = some (.int .i64 q.1) ∧ w.cell? (a.add (i * 3 + 1)) = some (.int .i64 q.2.1) ∧ w.cell? (a.add (i * 3 + 2)) = some (.string q.2.2) ∧ (Lit.int .i64 q.2.1).wf = true := by
    intro i hi
    obtain ⟨cs', h1, h2⟩ := hx i hi
    rw [cellsV] at h1
    obtain ⟨_, hlen, hcell⟩ := World.cells?_some h1
    obtain ⟨xs, k, hk, hxy, _, hxl, hf⟩ := DataW.trod_struct Tryd.underlying39 h2
    obtain ⟨y0, y1, y2, rfl⟩ := three (show xs.length = 3 from hxl)
    obtain ⟨v0, v1, v2, rfl⟩ := three hlen
    have g0 := hf 0 _ rfl
    have g1 := hf 1 _ rfl
    have g2 := hf 2 _ rfl
    simp [cellsK, cells2', cells9'] at g0 g1 g2
    obtain ⟨p, e0, _, _⟩ := DataW.trod_int Tryd.underlying37 g0
    obtain ⟨q, e1, _, wq⟩ := DataW.trod_int Tryd.underlying2 g1
    obtain ⟨r, e2, _, _⟩ := DataW.trod_string Tryd.underlying9 g2
    simp at e0 e1 e2
    subst e0 e1 e2
    have c0 := hcell 0 (by omega)
    have c1 := hcell 1 (by omega)
    have c2 := hcell 2 (by omega)
    rw [add_add] at c0 c1 c2
    exact ⟨(p, q, r), by simpa using c0, by simpa using c1, by simpa using c2, wq⟩
  obtain ⟨q, hq⟩ := choose_lt each
  obtain ⟨b, o, spot⟩ := a
  have hspot : spot = none := by simpa [Addr.add] using World.cell?_spot (hq 0 (by omega)).1
  subst hspot
  refine ⟨b, o, len, cap, fun i => (q i).1, fun i => (q i).2.1, fun i => (q i).2.2, _, _, rfl, by omega, rfl, by simp, fun i hi => ?_, fun i hi => wf_inI (hq i (by omega)).2.2.2⟩
  obtain ⟨c0, c1, c2, -⟩ := hq i (by omega)
  rw [add_plain] at c0 c1 c2
  exact ⟨c0, by rw [Nat.add_assoc]; exact c1, by rw [Nat.add_assoc]; exact c2⟩

set_option maxRecDepth 100000 in
theorem rordc_contract (H : Type) (enc : TypeId × Value → H) (W : World) (base : Nat) (args : Array Value) (ds gs : List (DataW H)) (before : List MemPlace)
    (hval : ∀ (j : Nat) t v, Tryd.f4.params[j]? = some t → args[j]? = some v → Value.okWide Tryd.prog W .any base t v)
    (hW : DataW.Whole enc Tryd.prog Tryd.f4.params.toList Rows.recordOrderSpec.vars false W args.toList ds gs before) (hsz : (DataW.weightsEach Tryd.prog (Tryd.f4.params.toList ++ (OpenSpec.ofChange Rows.recordOrderSpec).bare.plain.varTypes Tryd.prog) (ds ++ gs)).all (· ≤ reachBytes) = true) (hL : laidMetH Tryd.prog Rows.recordOrderRow.laid W) (hsh : W.ShapedOpen Tryd.prog) :
    Calls Tryd.prog 4 args W fun e W' => ∃ v, e = .returned v ∧ Rows.recordOrderSpec.post enc Tryd.prog Tryd.f4 false true false false W args v W' := by
  have hW' := hW
  obtain ⟨p, q, hA0, hV, rfl, hfz, hnd⟩ := hW
  have hA : DataW.TrodAll enc Tryd.prog W 0 (fun _ => true) true Tryd.f4.params.toList args.toList ds p := hA0
  rw [Tryd.params4] at hA hval
  obtain ⟨v0, vs0, d0, ds0, p0, q0, hargs, rfl, rfl, h0, r0⟩ := trodAll_cons hA
  obtain ⟨v1, vs1, d1, ds1, p1, q1, rfl, rfl, rfl, h1, r1⟩ := trodAll_cons r0
  obtain ⟨v2, vs2, d2, ds2, p2, q2, rfl, rfl, rfl, h2, r2⟩ := trodAll_cons r1
  obtain ⟨v3, vs3, d3, ds3, p3, q3, rfl, rfl, rfl, h3, r3⟩ := trodAll_cons r2
  obtain ⟨rfl, rfl, rfl⟩ := trodAll_nil r3
  obtain rfl : args = #[v0, v1, v2, v3] := by cases args; simp_all
  obtain ⟨rfl, rfl⟩ := trodVars_none hV
  obtain ⟨a0, len0, cap0, rfl⟩ := okWide_slice Tryd.underlying22 (hval 0 22 v0 rfl rfl)
  obtain ⟨a1, len1, cap1, rfl⟩ := okWide_slice Tryd.underlying22 (hval 1 22 v1 rfl rfl)
  obtain ⟨a2, len2, cap2, rfl⟩ := okWide_slice Tryd.underlying22 (hval 2 22 v2 rfl rfl)
  obtain ⟨a3, len3, cap3, rfl⟩ := okWide_slice Tryd.underlying23 (hval 3 23 v3 rfl rfl)
  simp only [List.append_nil] at hW'
  have hlt0 : ∀ x ∈ p0, x.block < W.heap.size := fun x hx => hW'.lt x (by simp [hx])
  have h0k : DataW.Trod enc Tryd.prog W 0 (fun _ => true) true 22 (.slice a0 len0 cap0) d0 p0 := h0
  have hargs0 : ∀ (W' : World), Below W.heap.size W W' → DataW.Trod enc Tryd.prog W' 0 (fun b => decide (b < W.heap.size)) true 22 (.slice a0 len0 cap0) d0 p0 :=
    fun W' hn => Below.trod laidOutD (by kernel_rfl) (of_decide_eq_true (by kernel_rfl)) h0k hn hlt0
  have hlt1 : ∀ x ∈ p1, x.block < W.heap.size := fun x hx => hW'.lt x (by simp [hx])
  have h1k : DataW.Trod enc Tryd.prog W 0 (fun _ => true) true 22 (.slice a1 len1 cap1) d1 p1 := h1
  have hargs1 : ∀ (W' : World), Below W.heap.size W W' → DataW.Trod enc Tryd.prog W' 0 (fun b => decide (b < W.heap.size)) true 22 (.slice a1 len1 cap1) d1 p1 :=
    fun W' hn => Below.trod laidOutD (by kernel_rfl) (of_decide_eq_true (by kernel_rfl)) h1k hn hlt1
  have hlt2 : ∀ x ∈ p2, x.block < W.heap.size := fun x hx => hW'.lt x (by simp [hx])
  have h2k : DataW.Trod enc Tryd.prog W 0 (fun _ => true) true 22 (.slice a2 len2 cap2) d2 p2 := h2
  have hargs2 : ∀ (W' : World), Below W.heap.size W W' → DataW.Trod enc Tryd.prog W' 0 (fun b => decide (b < W.heap.size)) true 22 (.slice a2 len2 cap2) d2 p2 :=
    fun W' hn => Below.trod laidOutD (by kernel_rfl) (of_decide_eq_true (by kernel_rfl)) h2k hn hlt2
  have hlt3 : ∀ x ∈ p3, x.block < W.heap.size := fun x hx => hW'.lt x (by simp [hx])
  have h3k : DataW.Trod enc Tryd.prog W 0 (fun _ => true) true 23 (.slice a3 len3 cap3) d3 p3 := h3
  have hargs3 : ∀ (W' : World), Below W.heap.size W W' → DataW.Trod enc Tryd.prog W' 0 (fun b => decide (b < W.heap.size)) true 23 (.slice a3 len3 cap3) d3 p3 :=
    fun W' hn => Below.trod laidOutD (by kernel_rfl) (of_decide_eq_true (by kernel_rfl)) h3k hn hlt3
  have hcall : Calls Tryd.prog 4 #[.slice a0 len0 cap0, .slice a1 len1 cap1, .slice a2 len2 cap2, .slice a3 len3 cap3] W fun e w' => e = .returned (.bool true) ∧ Below W.heap.size W w' := by
    have hR0 : ∃ K N T, RowP W a0 len0 K N T ∧ ∀ i, i < len0 → InI (N i) := by
      obtain ⟨fuel, hf⟩ := h0
      rcases open_rowI hf with hcs | ⟨a, cap', hcs⟩ | ⟨b, o, len', cap', K, N, T, el, sp, hcs, hp, hx, hel, hrow, hin⟩
      · simp [Value.cells] at hcs
        obtain ⟨rfl, rfl, rfl⟩ := hcs
        exact ⟨fun _ => 0, fun _ => 0, fun _ => ⟨#[]⟩, fun h => by omega, fun i hi => by omega⟩
      · simp [Value.cells] at hcs
        obtain ⟨rfl, rfl, rfl⟩ := hcs
        exact ⟨fun _ => 0, fun _ => 0, fun _ => ⟨#[]⟩, fun h => by omega, fun i hi => by omega⟩
      · simp [Value.cells] at hcs
        obtain ⟨rfl, rfl, rfl⟩ := hcs
        exact ⟨K, N, T, fun _ => ⟨b, o, rfl, hrow⟩, hin⟩
    have hR1 : ∃ K N T, RowP W a1 len1 K N T ∧ ∀ i, i < len1 → InI (N i) := by
      obtain ⟨fuel, hf⟩ := h1
      rcases open_rowI hf with hcs | ⟨a, cap', hcs⟩ | ⟨b, o, len', cap', K, N, T, el, sp, hcs, hp, hx, hel, hrow, hin⟩
      · simp [Value.cells] at hcs
        obtain ⟨rfl, rfl, rfl⟩ := hcs
        exact ⟨fun _ => 0, fun _ => 0, fun _ => ⟨#[]⟩, fun h => by omega, fun i hi => by omega⟩
      · simp [Value.cells] at hcs
        obtain ⟨rfl, rfl, rfl⟩ := hcs
        exact ⟨fun _ => 0, fun _ => 0, fun _ => ⟨#[]⟩, fun h => by omega, fun i hi => by omega⟩
      · simp [Value.cells] at hcs
        obtain ⟨rfl, rfl, rfl⟩ := hcs
        exact ⟨K, N, T, fun _ => ⟨b, o, rfl, hrow⟩, hin⟩
    have hR2 : ∃ K N T, RowP W a2 len2 K N T ∧ ∀ i, i < len2 → InI (N i) := by
      obtain ⟨fuel, hf⟩ := h2
      rcases open_rowI hf with hcs | ⟨a, cap', hcs⟩ | ⟨b, o, len', cap', K, N, T, el, sp, hcs, hp, hx, hel, hrow, hin⟩
      · simp [Value.cells] at hcs
        obtain ⟨rfl, rfl, rfl⟩ := hcs
        exact ⟨fun _ => 0, fun _ => 0, fun _ => ⟨#[]⟩, fun h => by omega, fun i hi => by omega⟩
      · simp [Value.cells] at hcs
        obtain ⟨rfl, rfl, rfl⟩ := hcs
        exact ⟨fun _ => 0, fun _ => 0, fun _ => ⟨#[]⟩, fun h => by omega, fun i hi => by omega⟩
      · simp [Value.cells] at hcs
        obtain ⟨rfl, rfl, rfl⟩ := hcs
        exact ⟨K, N, T, fun _ => ⟨b, o, rfl, hrow⟩, hin⟩
    have hR3 : ∃ C D, OrdP W a3 len3 C D := by
      obtain ⟨fuel, hf⟩ := h3
      rcases open_ords hf with hcs | ⟨a, cap', hcs⟩ | ⟨b, o, len', cap', C, D, el, sp, hcs, hp, hx, hel, hrow⟩
      · simp [Value.cells] at hcs
        obtain ⟨rfl, rfl, rfl⟩ := hcs
        exact ⟨fun _ => 0, fun _ => false, fun h => by omega⟩
      · simp [Value.cells] at hcs
        obtain ⟨rfl, rfl, rfl⟩ := hcs
        exact ⟨fun _ => 0, fun _ => false, fun h => by omega⟩
      · simp [Value.cells] at hcs
        obtain ⟨rfl, rfl, rfl⟩ := hcs
        exact ⟨C, D, fun _ => ⟨b, o, rfl, hrow⟩⟩
    obtain ⟨K, N, T, hra, hia⟩ := hR0
    obtain ⟨K2, N2, T2, hrb, hib⟩ := hR1
    obtain ⟨K3, N3, T3, hrx, -⟩ := hR2
    obtain ⟨C, D, hrc⟩ := hR3
    by_cases hfar : 2000 < len0 ∨ 2000 < len1 ∨ 2000 < len2
    · exact ro_far a0 a1 a2 a3 cap0 cap1 cap2 len3 cap3 ⟨len0, K, N, T⟩ ⟨len1, K2, N2, T2⟩ ⟨len2, K3, N3, T3⟩ hfar W
    by_cases hno : mayD ⟨len0, K, N, T⟩ = false ∨ mayD ⟨len1, K2, N2, T2⟩ = false ∨ mayD ⟨len2, K3, N3, T3⟩ = false
    · exact ro_no a0 a1 a2 a3 cap0 cap1 cap2 len3 cap3 ⟨len0, K, N, T⟩ ⟨len1, K2, N2, T2⟩ ⟨len2, K3, N3, T3⟩ (show len0 ≤ 2000 by omega) (show len1 ≤ 2000 by omega) (show len2 ≤ 2000 by omega) hno W hra hrb hrx
    · have hm : mayD ⟨len0, K, N, T⟩ = true ∧ mayD ⟨len1, K2, N2, T2⟩ = true ∧ mayD ⟨len2, K3, N3, T3⟩ = true := by
        refine ⟨?_, ?_, ?_⟩
        · cases h : mayD ⟨len0, K, N, T⟩ with
          | true => rfl
          | false => exact absurd (.inl h) hno
        · cases h : mayD ⟨len1, K2, N2, T2⟩ with
          | true => rfl
          | false => exact absurd (.inr (.inl h)) hno
        · cases h : mayD ⟨len2, K3, N3, T3⟩ with
          | true => rfl
          | false => exact absurd (.inr (.inr h)) hno
      exact ro_near a0 a1 a2 a3 cap0 cap1 cap2 len3 cap3 ⟨len0, K, N, T⟩ ⟨len1, K2, N2, T2⟩ ⟨len2, K3, N3, T3⟩ (show len0 ≤ 2000 by omega) (show len1 ≤ 2000 by omega) (show len2 ≤ 2000 by omega) hm.1 hm.2.1 hm.2.2 hia hib C D W hra hrb hrx hrc
  clear hA0 hsz
  refine hcall.mono fun e W' ⟨he, bel⟩ => ?_
  subst he
  have hfin : DataW.TrodAll enc Tryd.prog W' 0 (fun b => decide (b < W.heap.size)) true [22, 22, 22, 23] [.slice a0 len0 cap0, .slice a1 len1 cap1, .slice a2 len2 cap2, .slice a3 len3 cap3] [d0, d1, d2, d3] (p0 ++ p1 ++ p2 ++ p3) := by
    simpa using (trodAll_cons_mk (hargs0 W' bel) (trodAll_cons_mk (hargs1 W' bel) (trodAll_cons_mk (hargs2 W' bel) (trodAll_cons_mk (hargs3 W' bel) trodAll_mk0))))
  exact ⟨_, rfl, _, _, _, [], _, [], hW', trodAll_mk1 (shut_bool Tryd.underlying4 _), hfin, rfl, bel.frame _, fun h => by cases h⟩

/-- A world for the witness: every listed variable as it is listed. -/
noncomputable def rordcWorld (os : Os) : World := World.laidAll Tryd.prog os Rows.recordOrderRow.laid
theorem rordc_met (os : Os) (args : Array Value) : laidMetH Tryd.prog Rows.recordOrderRow.laid ((rordcWorld os).forCall (fun _ _ => 0) ⟨#[], args, []⟩).memory := by
  rw [MakeChecks.laidMetH_plain _ _ _ (by kernel_rfl)]
  exact laidMet_laidAll _ (by kernel_rfl) (by kernel_rfl)
noncomputable def rordcArgs : Array Value := #[.slice none 0 0, .slice none 0 0, .slice none 0 0, .slice none 0 0]
theorem rordc_reads (os : Os) {H : Type} (enc : TypeId × Value → H) : ∃ places, DataW.whole enc Tryd.prog ((rordcWorld os).forCall (fun _ _ => 0) ⟨#[], rordcArgs, []⟩).memory Tryd.f4.params.toList Rows.recordOrderSpec.vars false rordcArgs.toList 8 =
    some ([.nil, .nil, .nil, .nil], [], places) :=
  ⟨[], by kernel_rfl⟩

set_option maxRecDepth 100000 in
theorem rordc_lifted (os : Os) (started : os.Started) (H : Type) (enc : TypeId × Value → H) (F : Stop.Interp) :
    ReturnsInHanded {} Tryd.checked os 4 .any ((OpenSpec.ofChange Rows.recordOrderSpec).preRow enc Tryd.prog Tryd.f4 Rows.recordOrderRow.domain false Rows.recordOrderRow.laid) (((OpenSpec.ofChange Rows.recordOrderSpec).at F).post enc Tryd.prog Tryd.f4 false true false false) := by
  obtain ⟨places, hx⟩ := rordc_reads os enc
  refine returnsInHanded_of_row (C := Tryd.checked) (s := OpenSpec.ofChange Rows.recordOrderSpec) ownK started (by kernel_rfl) Tryd.func4
    (witness_row_at (enc := enc) (C := Tryd.checked) false (rordcWorld os) rordcArgs (World.laidAll_os _ _ _) (by kernel_rfl) (by kernel_rfl) (by kernel_rfl)
      (OpenSpec.preRow_of_cond 8 hx (by kernel_rfl) (fun k hk => by cases hk) (by kernel_rfl) (rordc_met os _))) ?_
  intro W base args ds gs before hval hW _ _ hsz hL hsh _
  exact rordc_contract H enc W base args ds gs before hval hW hsz hL hsh

theorem rordc_said : Rows.RecordOrderSaid :=
  OpenClaim.holds_of_cond 4 Tryd.f4 rfl rfl rfl rfl rfl rfl rfl ⟨rfl, rfl, rfl, rfl, rfl⟩ rfl rfl rfl rfl rfl (by kernel_rfl) Tryd.func4 (by kernel_rfl)
    (of_decide_eq_true (by kernel_rfl)) (by unfold Func.isWrapper; first | (rw [if_pos (by decide +kernel)]; kernel_rfl) | (rw [if_neg (by decide +kernel)]; exact ⟨rfl, rfl⟩))
    (fun os started H enc _ F => by rw [OpenClaim.pre_eq_preRow]; exact rordc_lifted os started H enc F)

theorem rordc_plain (f : FuncId) (fn : Func) (hf : Tryd.pinned.checked.prog.funcNamed "bureau/bureaulaw04.RecordOrder" = some f) (hfn : Tryd.pinned.checked.prog.funcs[f]? = some fn) :
    false = Tryd.pinned.checked.prog.looks [] ∧ ∀ (j : Nat) t, fn.params[j]? = some t → Tryd.pinned.checked.prog.wantsStandIn t = false := by
  obtain rfl : f = 4 := Option.some.inj ((show Tryd.prog.funcNamed "bureau/bureaulaw04.RecordOrder" = some 4 by kernel_rfl).symm.trans hf) |>.symm
  obtain rfl : fn = Tryd.f4 := (Option.some.inj (Tryd.func4.symm.trans hfn)).symm
  refine ⟨by kernel_rfl, fun j t ht => ?_⟩
  rw [Tryd.params4] at ht
  have ht2 : t = 22 ∨ t = 22 ∨ t = 22 ∨ t = 23 := by simpa [or_assoc] using Array.mem_of_getElem? ht
  rcases ht2 with rfl | rfl | rfl | rfl
  · exact (show Tryd.prog.wantsStandIn 22 = false by kernel_rfl)
  · exact (show Tryd.prog.wantsStandIn 22 = false by kernel_rfl)
  · exact (show Tryd.prog.wantsStandIn 22 = false by kernel_rfl)
  · exact (show Tryd.prog.wantsStandIn 23 = false by kernel_rfl)

theorem recordOrder_holds : Rows.RecordOrderCardSaid :=
  Claim7.holds_tied_plain_at .later [] _ _ _ _ rordc_said (fun _ h => by cases h) (by kernel_rfl) (fun _ h => by cases h) recordOrder_row_tie rfl ⟨rfl, rfl⟩ (by kernel_rfl) rfl rordc_plain (by kernel_rfl)
#print axioms recordOrder_holds
end Go.Proofs.YtfjmoiooonialaaDoor
