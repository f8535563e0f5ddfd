/- Whether a lock can be taken beside what the others hold: the program's closure and its switch. -/
import Derived.Test.YtadohcgplbihdaaGreatLKA
namespace Go.Proofs.YtadohcgplbihdaaGreat
open Go.ChangeShapes Go.WideShapes Go.ChangeAt Go.RowKit
set_option linter.unusedVariables false

/-- Another connection holds just that. -/
def anoB (h : List Int) (c x : Int) : Bool := (List.range 8).any fun i => decide ((i : Int) ≠ c) && decide (gt h i = x)
theorem anoB_iff (h : List Int) (c x : Int) : anoB h c x = true ↔ ∃ i : Nat, i < 8 ∧ (i : Int) ≠ c ∧ gt h i = x := by
  simp only [anoB, List.any_eq_true, List.mem_range, Bool.and_eq_true, decide_eq_true_eq]
theorem held_range {w : World} {g : Nat} {m : Bool} {h : List Int} {t : TypeId} (hb : Blk w g (tcl m h).toArray t) : w.rangeAt g 1 (hcl h) := by
  intro j v hv
  have hj : j < h.length := by have := (List.getElem?_eq_some_iff.1 hv).1; rwa [hcl_length] at this
  rw [hcl_get hj] at hv
  cases hv
  exact hb.held' hj
theorem u44 : ∃ d, Tryz.prog.underlying 176 = some d ∧ d.isRow = true := ⟨_, Tryz.underlying176, rfl⟩
theorem i44 {h : List Int} (h8 : h.length = 8) : (Tryz.prog.info? 176).map (·.size) = some (hcl h).length := by
  rw [hcl_length, h8]; kernel_rfl
theorem wp_loadH {ops : Array Oper} {rest : List Oper} {o : Oper} {a : Act} {Q : Exit → Act → World → Prop} {w : World} {g : Nat} {h : List Int} (h8 : h.length = 8) (hg : w.rangeAt g 1 (hcl h)) (x : Operand)
    (hgd : o.guard = none) (ho : o.op = .load 176 x) (hx : a.eval x = .pointer (some ⟨g, 1, none⟩)) (hk : wpList Tryz.prog ops Q rest (a.put o.dst (.agg (hcl h).toArray)) w) : wpList Tryz.prog ops Q (o :: rest) a w := by
  obtain ⟨d, hd, hr⟩ := u44
  exact wpList_load_mid hgd 176 x ho g 1 hx (hcl h) d hg hd hr (i44 h8) hk

theorem index_held (W : World) {h : List Int} (h8 : h.length = 8) {j : Nat} (hj : j < 8) :
    (Instr.index 176 (.agg (hcl h).toArray) (.int .i64 j)).run Tryz.prog W = .ok (.int .i64 (gt h j)) W := by
  have hn : (0 : Int) ≤ (j : Int) ∧ (j : Int) < 8 := by omega
  have hx := hcl_get (h := h) (k := j) (by omega)
  simp [Instr.index, run_underlying Tryz.underlying176, asIntOf, go_sem, hj, hx]

set_option maxRecDepth 20000 in
set_option maxHeartbeats 1000000 in
theorem another_any (w : World) (g : Nat) (h : List Int) (h8 : h.length = 8) (hb : TB w g h) (A C : Nat) (c x : Int)
    (hA : w.cell? ⟨A, 0, none⟩ = some (.pointer (some ⟨g, 0, none⟩))) (hC : w.cell? ⟨C, 0, none⟩ = some (.int .i64 c)) :
    Calls Tryz.prog 276 #[.int .i64 x, .pointer (some ⟨A, 0, none⟩), .pointer (some ⟨C, 0, none⟩)] w fun e w' => e = .returned (.bool (anoB h c x)) ∧ w = w' := by
  have HR := hide (held_range hb)
  have H8 := hide h8
  clear hb h8
  go_enter Tryz.func276, Tryz.ntmps276
  go_wp2_with (first
    | (refine wp_loadH H8.out HR.out _ (by rfl) (by rfl) (by rfl) ?_))
  go_loopw [11] (fun iv wr => ∃ j : Nat, j ≤ 8 ∧ iv = .int .i64 (j : Int) ∧ wr = w ∧ ∀ i, i < j → (i : Int) ≠ c → gt h i ≠ x) (fun iv _ => 8 - (intOf iv).toNat)
  case atStart => exact ⟨0, Nat.zero_le _, rfl, rfl, fun i hi => by omega⟩
  case round =>
    obtain ⟨j, hj, rfl, rfl, hno⟩ := hrel
    have HNo := hide hno
    clear hno
    by_cases hlt : j < 8
    · have l1 : (j : Int) < 8 := by omega
      have l0 : (0 : Int) ≤ (j : Int) := by omega
      have hw1 : IntKind.i64.wrap ((j : Int) + 1) = (j : Int) + 1 := by rw [IntKind.wrap_i64]; omega
      have hx := index_held wr H8.out hlt
      by_cases e1 : c = (j : Int)
      · subst e1
        go_wp2
        refine ⟨⟨j + 1, hlt, rfl, by trivial, fun i hi hne => ?_⟩, ?_⟩
        · by_cases e : i = j
          · subst e; exact absurd rfl hne
          · exact HNo.out i (by omega) hne
        · simp only [intOf]; omega
      · have e2 : ¬ (j : Int) = c := fun h => e1 h.symm
        by_cases e3 : gt h j = x
        · subst e3
          clear e1
          go_wp2
          go_ret
          refine ⟨?_, rfl⟩
          rw [(anoB_iff h c (gt h j)).2 ⟨j, hlt, e2, rfl⟩]
          rfl
        · clear e1
          have b1 : ((j : Int) != c) = true := by simpa using e2
          have b2 : (gt h j == x) = false := by simpa using e3
          go_wp2
          refine ⟨⟨j + 1, hlt, rfl, by trivial, fun i hi hne => ?_⟩, ?_⟩
          · by_cases e : i = j
            · subst e; exact e3
            · exact HNo.out i (by omega) hne
          · simp only [intOf]; omega
    · obtain rfl : j = 8 := by omega
      go_wp2
      go_ret
      refine ⟨?_, rfl⟩
      have : anoB h c x = false := by
        rw [← Bool.not_eq_true, anoB_iff]
        rintro ⟨i, h1, h2, h3⟩
        exact HNo.out i h1 h2 h3
      rw [this]
      rfl

end Go.Proofs.YtadohcgplbihdaaGreat
