/- Proved here: for every two lists of changes and every list of choices the Go function bureaulaw01.DiskKeeps returns true, whatever is in memory: a synced file is unchanged by any crash and restart, whatever happens to other files, and a file whose changes all survive is as it was seen. No condition. -/
import Derived.Test.YtefcconbpomedaaW16
import Derived.Test.YtefcconbpomedaaV15
namespace Go.Proofs.Ytefcconbpomedaa
open Go.ChangeShapes Go.WideShapes Go.ChangeAt Go.RowKit Go.Deep
set_option linter.unusedVariables false

set_option maxRecDepth 100000 in
theorem open_ints48 {H : Type} {enc : TypeId × Value → H} {w : World} {fuel : Nat} {cs : List Value} {x : DataW H × List MemPlace} (h : DataW.trod enc Try.prog w 0 (fun _ => true) true fuel 48 cs = some x) :
    cs = [.slice none 0 0] ∨ (∃ a cap, cs = [.slice (some a) 0 cap]) ∨
    ∃ (b o len cap : Nat) (A : Nat → Int), cs = [.slice (some ⟨b, o, none⟩) len cap] ∧ 0 < len ∧ ∀ i, i < len → A i ≤ 9223372036854775807 ∧ w.cell? ⟨b, o + i, none⟩ = some (.int .i64 (A i)) := by
  rcases open_slice Try.underlying48 h with h0 | ⟨a, len, cap, m, n, D, Pl, rfl, hb, hl, hm, hmm, rfl, hx⟩
  · exact Or.inl h0.1
  right
  simp only [if_true] at hmm
  by_cases h0 : len = 0
  · subst h0; exact Or.inl ⟨a, cap, rfl⟩
  right
  have each : ∀ i, i < m → ∃ q : Int, q ≤ 9223372036854775807 ∧ w.cell? (a.add i) = some (.int .i64 q) := by
    intro i hi
    obtain ⟨cs', h1, h2⟩ := hx i hi
    rw [cells3'] at h1
    obtain ⟨_, hlen, hcell⟩ := World.cells?_some h1
    obtain ⟨p, e0, _, hw⟩ := DataW.trod_int Try.underlying3 h2
    have c0 := hcell 0 (by omega)
    subst e0
    have hp : p ≤ 9223372036854775807 := by
      have := hw
      simp only [Lit.wf, Bool.and_eq_true, decide_eq_true_eq] at this
      have e2 : IntKind.i64.max = 9223372036854775807 := by decide
      rw [e2] at this
      exact this.2
    refine ⟨p, hp, ?_⟩
    rw [add_add] at c0
    simpa using c0
  obtain ⟨q, hq⟩ := choose_lt each
  obtain ⟨b, o, spot⟩ := a
  have hspot : spot = none := by simpa [Addr.add] using World.cell?_spot (hq 0 (by omega)).2
  subst hspot
  refine ⟨b, o, len, cap, q, rfl, by omega, fun i hi => ?_⟩
  obtain ⟨c0, c1⟩ := hq i (by omega)
  rw [add_plain] at c1
  exact ⟨c0, c1⟩

set_option maxRecDepth 100000 in
theorem keeps_lifted (os : Os) (started : os.Started) (H : Type) (enc : TypeId × Value → H) :
    ReturnsInHanded {} Try.checked os 5 .any (Rows.diskKeepsSpec.pre6 enc Try.prog Try.f5 Rows.diskKeepsRow.domain false) (Rows.diskKeepsSpec.post enc Try.prog Try.f5 false true false false) := by
  refine returnsInHanded_of_change (C := Try.checked) ownT started (by kernel_rfl) Try.func5
    (ChangeSpec.witness6 (enc := enc) (C := Try.checked) false ⟨#[], #[.slice none 0 0, .slice none 0 0, .slice none 0 0], []⟩ 8 (by kernel_rfl) (by kernel_rfl) (by kernel_rfl) (by kernel_rfl)) ?_
  intro W base args ds gs before hval0 hW hcnd _
  have hval : ∀ (j : Nat) t v, Try.f5.params[j]? = some t → args[j]? = some v → Value.okWide Try.prog W .any base t v := hval0
  have hW' := hW
  obtain ⟨p, q, hA0, hV, rfl, hfz, hnd⟩ := hW
  have hA : DataW.TrodAll enc Try.prog W 0 (fun _ => true) true Try.f5.params.toList args.toList ds p := hA0
  rw [Try.params5] at hA hval
  obtain ⟨v0, vs0, d0, ds0, p0, q0, hargs, rfl, rfl, h0, r0⟩ := trodAll_cons hA
  obtain ⟨v1, vs1, d1, ds1, p1, q1, rfl, rfl, rfl, h1, r1⟩ := trodAll_cons r0
  obtain ⟨v2, vs2, d2, ds2, p2, q2, rfl, rfl, rfl, h2, r2⟩ := trodAll_cons r1
  obtain ⟨rfl, rfl, rfl⟩ := trodAll_nil r2
  obtain rfl : args = #[v0, v1, v2] := by cases args; simp_all
  obtain ⟨rfl, rfl⟩ := trodVars_none hV
  obtain ⟨a0, len0, cap0, rfl⟩ := okWide_slice Try.underlying47 (hval 0 47 v0 rfl rfl)
  obtain ⟨a1, len1, cap1, rfl⟩ := okWide_slice Try.underlying47 (hval 1 47 v1 rfl rfl)
  obtain ⟨a2, len2, cap2, rfl⟩ := okWide_slice Try.underlying48 (hval 2 48 v2 rfl rfl)
  simp only [List.append_nil] at hW'
  have hlt0 : ∀ x ∈ p0, x.block < W.heap.size := fun x hx => hW'.lt x (by simp [hx])
  have hlt1 : ∀ x ∈ p1, x.block < W.heap.size := fun x hx => hW'.lt x (by simp [hx])
  have hlt2 : ∀ x ∈ p2, x.block < W.heap.size := fun x hx => hW'.lt x (by simp [hx])
  have h0k : DataW.Trod enc Try.prog W 0 (fun _ => true) true 47 (.slice a0 len0 cap0) d0 p0 := h0
  have h1k : DataW.Trod enc Try.prog W 0 (fun _ => true) true 47 (.slice a1 len1 cap1) d1 p1 := h1
  have h2k : DataW.Trod enc Try.prog W 0 (fun _ => true) true 48 (.slice a2 len2 cap2) d2 p2 := h2
  have hargs0 : ∀ (W' : World), Below W.heap.size W W' → DataW.Trod enc Try.prog W' 0 (fun b => decide (b < W.heap.size)) true 47 (.slice a0 len0 cap0) d0 p0 :=
    fun W' hn => Below.trod laidOutT (by kernel_rfl) (of_decide_eq_true (by kernel_rfl)) h0k hn hlt0
  have hargs1 : ∀ (W' : World), Below W.heap.size W W' → DataW.Trod enc Try.prog W' 0 (fun b => decide (b < W.heap.size)) true 47 (.slice a1 len1 cap1) d1 p1 :=
    fun W' hn => Below.trod laidOutT (by kernel_rfl) (of_decide_eq_true (by kernel_rfl)) h1k hn hlt1
  have hargs2 : ∀ (W' : World), Below W.heap.size W W' → DataW.Trod enc Try.prog W' 0 (fun b => decide (b < W.heap.size)) true 48 (.slice a2 len2 cap2) d2 p2 :=
    fun W' hn => Below.trod laidOutT (by kernel_rfl) (of_decide_eq_true (by kernel_rfl)) h2k hn hlt2
  clear hA0 hval0
  have files : ∀ {a : Option Addr} {len cap : Nat} {d : DataW H} {p : List MemPlace}, DataW.Trod enc Try.prog W 0 (fun _ => true) true 47 (.slice a len cap) d p → ∃ A S, FP W a len A S := fun {a len cap d p} h => by
    obtain ⟨fuel, hf⟩ := h
    rcases open_files hf with hcs | ⟨a, cap', hcs⟩ | ⟨b, o, len', cap', A, S, hcs, hp, hrow⟩
    · simp [Value.cells] at hcs
      obtain ⟨rfl, rfl, rfl⟩ := hcs
      exact ⟨fun _ => 0, fun _ => ⟨#[]⟩, fun h => by omega⟩
    · simp [Value.cells] at hcs
      obtain ⟨rfl, rfl, rfl⟩ := hcs
      exact ⟨fun _ => 0, fun _ => ⟨#[]⟩, fun h => by omega⟩
    · simp [Value.cells] at hcs
      obtain ⟨rfl, rfl, rfl⟩ := hcs
      exact ⟨A, S, fun _ => ⟨b, o, rfl, hrow⟩⟩
  obtain ⟨A0, S0, hra0⟩ := files h0k
  obtain ⟨A1, S1, hra1⟩ := files h1k
  have hR2 : ∃ xs : List Int, xs.length = len2 ∧ ∀ j x, xs[j]? = some x → x ≤ 9223372036854775807 ∧ ∃ g o, a2 = some ⟨g, o, none⟩ ∧ W.cell? ⟨g, o + j, none⟩ = some (.int .i64 x) := by
    obtain ⟨fuel, hf⟩ := h2
    rcases open_ints48 hf with hcs | ⟨a, cap', hcs⟩ | ⟨b, o, len', cap', A, hcs, hp, hrow⟩
    · simp [Value.cells] at hcs
      obtain ⟨rfl, rfl, rfl⟩ := hcs
      exact ⟨[], rfl, fun j x h => by simp at h⟩
    · simp [Value.cells] at hcs
      obtain ⟨rfl, rfl, rfl⟩ := hcs
      exact ⟨[], rfl, fun j x h => by simp at h⟩
    · simp [Value.cells] at hcs
      obtain ⟨rfl, rfl, rfl⟩ := hcs
      refine ⟨(List.range len2).map A, by simp, fun j x h => ?_⟩
      rw [List.getElem?_map] at h
      have hj : j < len2 := by
        refine Nat.lt_of_not_le fun hc => ?_
        rw [List.getElem?_eq_none (by simpa using hc)] at h
        cases h
      rw [List.getElem?_range hj] at h
      cases h
      exact ⟨(hrow j hj).1, b, o, rfl, (hrow j hj).2⟩
  obtain ⟨xs, rfl, hxs⟩ := hR2
  refine (keeps_walk W a0 len0 cap0 A0 S0 hra0 a1 len1 cap1 A1 S1 hra1 a2 cap2 xs hxs).mono fun e W' ⟨he, bel⟩ => ?_
  subst he
  have hfin : DataW.TrodAll enc Try.prog W' 0 (fun b => decide (b < W.heap.size)) true [47, 47, 48] [.slice a0 len0 cap0, .slice a1 len1 cap1, .slice a2 xs.length cap2] [d0, d1, d2] (p0 ++ (p1 ++ p2)) := by
    simpa using (trodAll_cons_mk (hargs0 W' bel) (trodAll_cons_mk (hargs1 W' bel) (trodAll_cons_mk (hargs2 W' bel) trodAll_mk0)))
  exact ⟨_, rfl, _, _, _, [], _, [], hW', trodAll_mk1 (shut_bool Try.underlying4 _), hfin, rfl, bel.frame _, fun h => by cases h⟩

theorem diskKeeps_holds : Rows.DiskKeepsSaid :=
  OpenClaim.holds_of_wide 5 Try.f5 rfl rfl rfl rfl rfl rfl rfl ⟨rfl, rfl, rfl, rfl, rfl⟩ rfl rfl rfl rfl rfl (by kernel_rfl) Try.func5 (by kernel_rfl)
    (of_decide_eq_true (by kernel_rfl)) (by unfold Func.isWrapper; first | (rw [if_pos (by decide +kernel)]; kernel_rfl) | (rw [if_neg (by decide +kernel)]; exact ⟨rfl, rfl⟩))
    (fun os started H enc _ => keeps_lifted os started H enc)
#print axioms diskKeeps_holds
end Go.Proofs.Ytefcconbpomedaa
