/- head: the calls whose answers the document fixes. -/
import Derived.Test.YtghemaghbpekfaaGreatDoorVR
namespace Go.Proofs.YtghemaghbpekfaaGreatDoor
open Go.ChangeShapes Go.WideShapes Go.ChangeAt Go.RowKit
set_option linter.unusedVariables false

theorem hide {p : Prop} (h : p) : Hid p := h

/-- What is written is read as itself. -/
theorem reads_print {k n : Int} {t : List UInt8} (h0 : -9223372036854775808 ≤ n) (h1 : n ≤ 9223372036854775807) (hm : MayL k n t) {k' n' : Int} {t' : List UInt8} {c : Int}
    (h : readsAs (printL k n t) k' n' t' c) : k' = k ∧ n' = n ∧ t' = t ∧ c = 0 := by
  obtain ⟨g1, g2, g3⟩ := guess_print h0 h1 hm
  have hl := printL_length h0 h1 hm
  rcases h with ⟨h, _⟩ | ⟨_, _, _, rfl, rfl, rfl, rfl⟩ | ⟨_, h, _⟩
  · omega
  · exact ⟨g1, g2, g3, rfl⟩
  · rw [g1, g2, g3] at h
    exact absurd ⟨hm, rfl⟩ h

theorem read_its (w : World) (hE : Env w) : Calls Tryz.prog 15 #[.string ⟨#[39, 105, 116, 39, 39, 115, 39]⟩] w fun e w' => e = .returned (.tuple #[val 2 0 ⟨#[105, 116, 39, 115]⟩, .int .i64 0]) ∧ Below w.heap.size w w' := by
  refine (read_walk _ w hE).mono ?_
  rintro e w1 ⟨k, n, t, c, rfl, h, hb⟩
  have hp : (⟨#[39, 105, 116, 39, 39, 115, 39]⟩ : ByteArray).data.toList = printL 2 0 [105, 116, 39, 115] := by decide +kernel
  rw [hp] at h
  obtain ⟨rfl, rfl, ht, rfl⟩ := reads_print (by omega) (by omega) (.inr (.inr ⟨.inl rfl, rfl, by simp⟩)) h
  refine ⟨?_, hb⟩
  have : t = ⟨#[105, 116, 39, 115]⟩ := by
    cases t with | mk d => simp at ht; simp [← ht]
  rw [this]

theorem read_05 (w : World) (hE : Env w) : Calls Tryz.prog 15 #[.string ⟨#[48, 53]⟩] w fun e w' => e = .returned (.tuple #[val 0 0 ⟨#[]⟩, .int .i64 120]) ∧ Below w.heap.size w w' := by
  refine (read_walk _ w hE).mono ?_
  rintro e w1 ⟨k, n, t, c, rfl, h, hb⟩
  have hn : numL [48, 53] = 5 := by decide +kernel
  have hg : guessK [48, 53] = 1 ∧ guessN [48, 53] = 5 ∧ guessT [48, 53] = [] := by
    refine ⟨by decide +kernel, ?_, by decide +kernel⟩
    have : guessN [48, 53] = numL [48, 53] := by simp [guessN, nullL, Lib.hasPrefix, List.isPrefixOf]
    rw [this, hn]
  have hne : ¬ printL 1 5 [] = [48, 53] := by
    simp [printL, Lib.itoa, Lib.decDigits]
  rcases h with ⟨h, _⟩ | ⟨_, _, h, hk, hn', ht, rfl⟩ | ⟨_, _, rfl, rfl, ht, rfl⟩
  · simp at h
  · have e0 : (⟨#[48, 53]⟩ : ByteArray).data.toList = [48, 53] := rfl
    rw [hk, hn', ht, e0, hg.1, hg.2.1, hg.2.2] at h
    exact absurd h hne
  · refine ⟨?_, hb⟩
    have : t = ⟨#[]⟩ := by
      cases t with | mk d => simp at ht; simp [ht]
    rw [this]

set_option maxHeartbeats 1000000 in
set_option maxRecDepth 10000 in
theorem head_walk (w : World) (hE : Env w) : Calls Tryz.prog 5 #[] w fun e w' => e = .returned (.bool true) ∧ Below w.heap.size w w' := by
  have hm : mayB 2 0 ⟨#[105, 116, 39, 115]⟩ = true := by decide +kernel
  have HE : Hid (∀ V, Below w.heap.size w V → Env V) := fun V hV => hE.below hV
  have HE0 : Hid (Env w) := hE
  have hf : ∀ V, (Instr.field 24 (.agg #[.int .i64 1, .int .i64 3, .string ⟨#[]⟩]) 1).run Tryz.prog V = .ok (.int .i64 3) V := fun V => by kernel_rfl
  go_enter Tryz.func5, Tryz.ntmps5
  go_wp2_with (first
    | (go_at_call 15; with_reducible refine Calls.mono (read_its _ HE0.out) ?_; rintro e w1 ⟨rfl, hb1⟩; have HB1 := hide hb1; clear hb1)
    | (go_at_call 15; with_reducible refine Calls.mono (read_05 _ ((HE.out _ HB1.out).below (new_below w1 _ rfl))) ?_; rintro e w2 ⟨rfl, hb2⟩; have c0 := fun o => cell_later (below_trans hb2 (new_below w2 o rfl)) (new_cells w1 _ _ rfl 0 _ rfl); have c1 := fun o => cell_later (below_trans hb2 (new_below w2 o rfl)) (new_cells w1 _ _ rfl 1 _ rfl); have c2 := fun o => cell_later (below_trans hb2 (new_below w2 o rfl)) (new_cells w1 _ _ rfl 2 _ rfl); have HB2 := hide (below_trans HB1.out (below_trans (new_below w1 _ rfl) hb2)); clear hb2)
    | (go_at_call 16; with_reducible refine Calls.mono (may_walk _ _ _ _) ?_; rintro e w3 ⟨rfl, hb3⟩; have HB3 := hide (below_trans HB2.out (below_trans (new_below w2 _ rfl) hb3)); clear hb3)
    | (go_at_call 17; with_reducible refine Calls.mono (int_walk _ _) ?_; rintro e w4 ⟨he, hb4⟩; dsimp only [val] at he; subst he; have HB4 := hide (below_trans HB3.out hb4); clear hb4))
  go_ret
  exact ⟨rfl, HB4.out⟩
end Go.Proofs.YtghemaghbpekfaaGreatDoor
