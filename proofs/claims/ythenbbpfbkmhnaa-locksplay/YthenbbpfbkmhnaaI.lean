/- The document's answer: Drop. -/
import Derived.Test.YthenbbpfbkmhnaaH
namespace Go.Proofs.Ythenbbpfbkmhnaa
open Go.ChangeShapes Go.WideShapes Go.ChangeAt Go.RowKit
set_option linter.unusedVariables false

set_option maxHeartbeats 2000000 in
theorem rdrop_any (w : World) (m : Bool) (L : List Int) (h8 : L.length = 8) (c l : Int) : Calls Try.prog 10 #[.agg (tcl m L).toArray, .int .i64 c, .int .i64 l] w fun e w' =>
    e = .returned (.tuple #[.agg (tcl m (rdH m L c l)).toArray, .int .i64 (wrE m c l)]) ∧ Only [] w w' := by
  have HT := hide (Two.start w m L)
  rw [z_eq] at HT
  have HW := hide (fun W => wrong_any W m L h8 c l)
  have H8 := hide h8
  have HZ := hide h0_length
  by_cases hwe : wrE m c l = 0
  · obtain rfl : m = true := by
      cases m
      · exact absurd (show (1 : Int) = 0 from hwe) (by decide)
      · rfl
    have ha : askE c l = 0 := hwe
    obtain ⟨⟨hc0, hc8⟩, hl0, hl3⟩ := askE_in ha
    obtain ⟨k, rfl, hk⟩ : ∃ k : Nat, c = (k : Int) ∧ k < 8 := ⟨c.toNat, by omega, by omega⟩
    rw [hwe] at HW ⊢
    have HH : Hid (rdH true L (k : Int) l = L.set k (min (gt L k) l)) := by
      show drH L (k : Int) l = _
      unfold drH
      rw [if_pos ha]; rfl
    clear h8 hwe ha hl0 hl3 hc0 hc8
    have l0 : (0 : Int) ≤ (k : Int) := by omega
    have l1 : (k : Int) < 8 := by omega
    have HK := hide (show k < L.length by rw [H8.out]; exact hk)
    by_cases e1 : l < gt L k
    · have H82 := hide (show (L.set k l).length = 8 by rw [List.length_set]; exact H8.out)
      have HH2 := hide (show L.set k (min (gt L k) l) = L.set k l by rw [show min (gt L k) l = l by omega])
      go_enter Try.func10, Try.ntmps10
      go_wp2_with (first
        | (refine wp_load29 H8.out HT.out.p.range _ (by rfl) (by rfl) (by rfl) ?_)
        | (go_at_call 17; with_reducible refine Calls.mono (HW.out _) ?_; rintro e w4 ⟨rfl, ho⟩; have HT4 := hide (HT.out.later ho); have c4 := HT4.out.p.held' HK.out; have f4 := HT4.out.p.frozen (1 + k); clear ho HT)
        | (refine wp_load29 H82.out (two_set HT4.out k l).1.p.range _ (by rfl) (by rfl) (by rfl) ?_)
        | (refine wp_store29 H82.out HZ.out (two_set HT4.out k l).1.z _ _ (by rfl) (by rfl) (by rfl) (by rfl) ?_; intro W5 hN5 hO5; have HN5 := hide hN5; have HO5 := hide ((two_set HT4.out k l).1.fin hO5); clear hN5 hO5))
      refine ret_tab2 H82.out (by rfl) (by rfl) (by rfl) HN5.out ?_
      exact ⟨by rw [HH.out, HH2.out]; rfl, HO5.out⟩
    · have HH2 : Hid (L.set k (min (gt L k) l) = L) := by
        show L.set k (min (gt L k) l) = L
        rw [show min (gt L k) l = gt L k by omega]
        unfold gt
        rw [List.getElem?_eq_getElem HK.out]
        simp
      go_enter Try.func10, Try.ntmps10
      go_wp2_with (first
        | (refine wp_load29 H8.out HT.out.p.range _ (by rfl) (by rfl) (by rfl) ?_)
        | (go_at_call 17; with_reducible refine Calls.mono (HW.out _) ?_; rintro e w4 ⟨rfl, ho⟩; have HT4 := hide (HT.out.later ho); have c4 := HT4.out.p.held' HK.out; clear ho HT)
        | (refine wp_load29 H8.out HT4.out.p.range _ (by rfl) (by rfl) (by rfl) ?_)
        | (refine wp_store29 H8.out HZ.out HT4.out.z _ _ (by rfl) (by rfl) (by rfl) (by rfl) ?_; intro W5 hN5 hO5; have HN5 := hide hN5; have HO5 := hide (HT4.out.fin hO5); clear hN5 hO5))
      refine ret_tab2 H8.out (by rfl) (by rfl) (by rfl) HN5.out ?_
      exact ⟨by rw [HH.out, HH2.out]; rfl, HO5.out⟩
  · have HH : Hid (rdH m L c l = L) := by
      show rdH m L c l = _
      unfold rdH wrE at *
      cases m
      · rfl
      · simp only [if_true] at hwe ⊢
        unfold drH
        rw [if_neg hwe]
    have b0 : (wrE m c l == 0) = false := by simpa using hwe
    rw [HH.out]
    obtain ⟨E, hE⟩ : ∃ E, E = wrE m c l := ⟨_, rfl⟩
    rw [← hE] at HW hwe b0 ⊢
    clear h8 HH hE
    go_enter Try.func10, Try.ntmps10
    go_wp2_with (first
        | (refine wp_load29 H8.out HT.out.p.range _ (by rfl) (by rfl) (by rfl) ?_)
        | (go_at_call 17; with_reducible refine Calls.mono (HW.out _) ?_; rintro e w4 ⟨rfl, ho⟩; have HT4 := hide (HT.out.later ho); clear ho HT)
        | (refine wp_load29 H8.out HT4.out.p.range _ (by rfl) (by rfl) (by rfl) ?_)
        | (refine wp_store29 H8.out HZ.out HT4.out.z _ _ (by rfl) (by rfl) (by rfl) (by rfl) ?_; intro W5 hN5 hO5; have HN5 := hide hN5; have HO5 := hide (HT4.out.fin hO5); clear hN5 hO5))
    refine ret_tab2 H8.out (by rfl) (by rfl) (by rfl) HN5.out ?_
    exact ⟨rfl, HO5.out⟩
end Go.Proofs.Ythenbbpfbkmhnaa
