/- Proved here: for every two quadruples of numbers the Go function bureaulaw01.DiskSeal returns true, whatever is in memory: a sealed sector says its numbers; torn anywhere while another one is written over it, it says either the old ones or the new ones; written anew as it says it, torn anywhere, it goes on saying that. No condition. -/
import Derived.Test.YtefcconbpomedaaU2
import Derived.SizedLaws
import Derived.Deep.Slices
import Derived.Carry
namespace Go.Proofs.Ytefcconbpomedaa
open Go.ChangeShapes Go.WideShapes Go.ChangeAt Go.RowKit Go.Deep
set_option linter.unusedVariables false

theorem ownS : ownKnob Try.prog.godebug = none := by kernel_rfl
theorem laidOutS : laidOutB Try.prog = true := by kernel_rfl
theorem cells40 : Try.prog.cellsOf 40 = 4 := by kernel_rfl
set_option maxRecDepth 100000 in
/-- Four numbers that are handed in by value. -/
theorem open_words {H : Type} {enc : TypeId × Value → H} {W : World} {r : Reach} {base b0 : Nat} {spare : Nat → Bool} {held : Bool} {v : Value} {d : DataW H} {ps : List MemPlace} (hv : Value.okWide Try.prog W r b0 40 v) (h : DataW.Trod enc Try.prog W base spare held 40 v d ps) : ∃ a b c d : Nat, (a < 4294967296 ∧ b < 4294967296 ∧ c < 4294967296 ∧ d < 4294967296) ∧ v = .agg (vec a b c d) := by
  have hv' := hv
  simp only [Value.okWide, ar40] at hv'
  obtain ⟨cs, rfl, hsz, _⟩ := hv'
  rw [cells40] at hsz
  obtain ⟨fuel, hf⟩ := h
  obtain ⟨xs, m, _, _, hlen, hxl, hx⟩ := DataW.trod_array ar40 hf
  have each : ∀ i, i < 4 → ∃ n : Nat, n < 4294967296 ∧ cs[i]? = some (.int .u32 (n : Int)) := by
    intro i hi
    have hxi := hx i hi
    rw [cells38, Nat.mul_one, List.getElem?_eq_getElem (by omega)] at hxi
    obtain ⟨n, hn, _, wf⟩ := DataW.trod_int Try.underlying38 hxi
    have hc : cs[i]? = some (.int .u32 n) := by
      have : ((cs.toList.drop i).take 1) = [Value.int .u32 n] := hn
      have h2 := congrArg (fun l => l[0]?) this
      simpa [List.getElem?_take, List.getElem?_drop] using h2
    have e1 : IntKind.u32.min = 0 := by decide
    have e2 : IntKind.u32.max = 4294967295 := by decide
    simp only [Lit.wf, Bool.and_eq_true, decide_eq_true_eq, e1, e2] at wf
    refine ⟨n.toNat, by omega, ?_⟩
    rw [hc]
    congr 2
    omega
  obtain ⟨a, la, ha⟩ := each 0 (by omega)
  obtain ⟨b, lb, hb⟩ := each 1 (by omega)
  obtain ⟨c, lc, hc⟩ := each 2 (by omega)
  obtain ⟨e, le, he⟩ := each 3 (by omega)
  refine ⟨a, b, c, e, ⟨la, lb, lc, le⟩, ?_⟩
  congr 1
  apply Array.ext
  · rw [hsz]; rfl
  · intro i h1 h2
    have hi : i < 4 := by omega
    have hg : ∀ x, cs[i]? = some x → cs[i] = x := fun x h => by rw [Array.getElem?_eq_getElem h1] at h; exact Option.some.inj h
    rcases (by omega : i = 0 ∨ i = 1 ∨ i = 2 ∨ i = 3) with rfl | rfl | rfl | rfl
    · rw [hg _ ha]; rfl
    · rw [hg _ hb]; rfl
    · rw [hg _ hc]; rfl
    · rw [hg _ he]; rfl

set_option maxRecDepth 100000 in
theorem seal_lifted (os : Os) (started : os.Started) (H : Type) (enc : TypeId × Value → H) :
    ReturnsInHanded {} Try.checked os 4 .any (Rows.diskSealSpec.pre6 enc Try.prog Try.f4 Rows.diskSealRow.domain false) (Rows.diskSealSpec.post enc Try.prog Try.f4 false true false false) := by
  refine returnsInHanded_of_change (C := Try.checked) ownS started (by kernel_rfl) Try.func4
    (ChangeSpec.witness6 (enc := enc) (C := Try.checked) false ⟨#[], #[.agg (vec 0 0 0 0), .agg (vec 0 0 0 0)], []⟩ 8 (by kernel_rfl) (by kernel_rfl) (by kernel_rfl) (by kernel_rfl)) ?_
  intro W base args ds gs before hval0 hW hcnd _
  have hval : ∀ (j : Nat) t v, Try.f4.params[j]? = some t → args[j]? = some v → Value.okWide Try.prog W .any base t v := hval0
  have hW' := hW
  obtain ⟨p, q, hA0, hV, rfl, hfz, hnd⟩ := hW
  have hA : DataW.TrodAll enc Try.prog W 0 (fun _ => true) true Try.f4.params.toList args.toList ds p := hA0
  rw [Try.params4] at hA hval
  obtain ⟨v0, vs0, d0, ds0, p0, q0, hargs, rfl, rfl, h0, r0⟩ := trodAll_cons hA
  obtain ⟨v1, vs1, d1, ds1, p1, q1, rfl, rfl, rfl, h1, r1⟩ := trodAll_cons r0
  obtain ⟨rfl, rfl, rfl⟩ := trodAll_nil r1
  obtain rfl : args = #[v0, v1] := by cases args; simp_all
  obtain ⟨rfl, rfl⟩ := trodVars_none hV
  obtain ⟨a, b, c, d, ⟨ha, hb, hc, hd⟩, rfl⟩ := open_words (hval 0 40 v0 rfl rfl) h0
  obtain ⟨e, f, g, h, ⟨he, hf, hg, hh⟩, rfl⟩ := open_words (hval 1 40 v1 rfl rfl) h1
  clear hA0 hval0
  simp only [List.append_nil] at hW'
  have hlt0 : ∀ x ∈ p0, x.block < W.heap.size := fun x hx => hW'.lt x (by simp [hx])
  have hlt1 : ∀ x ∈ p1, x.block < W.heap.size := fun x hx => hW'.lt x (by simp [hx])
  have h0k : DataW.Trod enc Try.prog W 0 (fun _ => true) true 40 (.agg (vec a b c d)) d0 p0 := h0
  have h1k : DataW.Trod enc Try.prog W 0 (fun _ => true) true 40 (.agg (vec e f g h)) d1 p1 := h1
  have hargs0 : ∀ (W' : World), Below W.heap.size W W' → DataW.Trod enc Try.prog W' 0 (fun b => decide (b < W.heap.size)) true 40 (.agg (vec a b c d)) d0 p0 :=
    fun W' hn => Below.trod laidOutS (by kernel_rfl) (of_decide_eq_true (by kernel_rfl)) h0k hn hlt0
  have hargs1 : ∀ (W' : World), Below W.heap.size W W' → DataW.Trod enc Try.prog W' 0 (fun b => decide (b < W.heap.size)) true 40 (.agg (vec e f g h)) d1 p1 :=
    fun W' hn => Below.trod laidOutS (by kernel_rfl) (of_decide_eq_true (by kernel_rfl)) h1k hn hlt1
  refine (seal_walk W a b c d e f g h ha hb hc hd he hf hg hh).mono fun e' W' ⟨he', bel⟩ => ?_
  subst he'
  have hfin : DataW.TrodAll enc Try.prog W' 0 (fun b => decide (b < W.heap.size)) true [40, 40] [.agg (vec a b c d), .agg (vec e f g h)] [d0, d1] (p0 ++ p1) := by
    simpa using (trodAll_cons_mk (hargs0 W' bel) (trodAll_cons_mk (hargs1 W' bel) trodAll_mk0))
  exact ⟨_, rfl, _, _, _, [], _, [], hW', trodAll_mk1 (shut_bool Try.underlying4 _), hfin, rfl, bel.frame _, fun h => by cases h⟩

theorem diskSeal_holds : Rows.DiskSealSaid :=
  OpenClaim.holds_of_wide 4 Try.f4 rfl rfl rfl rfl rfl rfl rfl ⟨rfl, rfl, rfl, rfl, rfl⟩ rfl rfl rfl rfl rfl (by kernel_rfl) Try.func4 (by kernel_rfl)
    (of_decide_eq_true (by kernel_rfl)) (by unfold Func.isWrapper; first | (rw [if_pos (by decide +kernel)]; kernel_rfl) | (rw [if_neg (by decide +kernel)]; exact ⟨rfl, rfl⟩))
    (fun os started H enc _ => seal_lifted os started H enc)
#print axioms diskSeal_holds
end Go.Proofs.Ytefcconbpomedaa
