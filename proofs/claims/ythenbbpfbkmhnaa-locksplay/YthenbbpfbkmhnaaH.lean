/- The document's answer: Take and Drop. -/
import Derived.Test.YthenbbpfbkmhnaaG
namespace Go.Proofs.Ythenbbpfbkmhnaa
open Go.ChangeShapes Go.WideShapes Go.ChangeAt Go.RowKit
set_option linter.unusedVariables false

theorem ret_tab2 {W : World} {g j i : Nat} {m : Bool} {h : List Int} (h8 : h.length = 8) {fn : Func} (hres : fn.results = #[.cell j 29, .tmp i]) {tmps : Array Value} (ht : tmps.getD j undef = .pointer (some ⟨g, 0, none⟩)) {u : Value} (hu : tmps.getD i undef = u)
    (hg : Blk W g (tcl m h).toArray 29) {R : Ending → World → Prop} (hR : R (.returned (.tuple #[.agg (tcl m h).toArray, u])) W) : bodyPost Try.prog fn R Exit.ret { tmps := tmps, defers := [] } W := by
  obtain ⟨d, hd, hr⟩ := u29
  have hld := run_loadVar_mid (P := Try.prog) W g 0 29 (tcl m h) d hg.range hd hr (size29 h8)
  refine bodyPost_ret (v := .tuple #[.agg (tcl m h).toArray, u]) ?_ rfl hR
  have ht' : tmps[j]?.getD undef = .pointer (some ⟨g, 0, none⟩) := by simpa using ht
  have hu' : tmps[i]?.getD undef = u := by simpa using hu
  simp [results, hres, ht', hu', asAddr, hld]

/-- The document's table, and what Take makes of it. -/
def rtE (m : Bool) (h : List Int) (c l : Int) : Int := if m then tkE h c l else 1
def rtH (m : Bool) (h : List Int) (c l : Int) : List Int := if m then tkH h c l else h
def rdH (m : Bool) (h : List Int) (c l : Int) : List Int := if m then drH h c l else h
theorem rtH_length (m : Bool) (h : List Int) (c l : Int) : (rtH m h c l).length = h.length := by unfold rtH; split; exact tkH_length h c l; rfl
theorem rdH_length (m : Bool) (h : List Int) (c l : Int) : (rdH m h c l).length = h.length := by unfold rdH; split; exact drH_length h c l; rfl

/-- Two blocks of its own: the table handed in, and the one that is handed back. -/
structure Two (w W : World) (m : Bool) (L : List Int) : Prop where
  only : Only [] w W
  p : Blk W w.heap.size (tcl m L).toArray 29
  z : Blk W (w.heap.size + 1) (tcl false h0).toArray 29
theorem Two.start (w : World) (m : Bool) (L : List Int) : Two w ((w.alloc (.cells (tcl m L).toArray 29)).alloc (.cells (tcl false h0).toArray 29)) m L := by
  refine ⟨(Only.alloc _ _ _).trans (Only.alloc _ _ _), ?_, ?_⟩
  · exact (Only.alloc _ _ []).blk (Blk.new w (tcl m L).toArray 29) (by simp)
  · have := Blk.new (w.alloc (.cells (tcl m L).toArray 29)) (tcl false h0).toArray 29
    simpa using this
theorem Two.later {w W W' : World} {m : Bool} {L : List Int} (h : Two w W m L) (ho : Only [] W W') : Two w W' m L :=
  ⟨h.only.trans ho, ho.blk h.p (by simp), ho.blk h.z (by simp)⟩
theorem Two.fin {w W W' : World} {m : Bool} {L : List Int} (h : Two w W m L) (ho : Only [w.heap.size + 1] W W') : Only [] w W' :=
  h.only.andThen ho (fun j hj => .inr (by simp at hj; omega))

theorem z_eq : (tcl false h0).toArray = #[.bool false, .int .i64 0, .int .i64 0, .int .i64 0, .int .i64 0, .int .i64 0, .int .i64 0, .int .i64 0, .int .i64 0] := rfl
theorem two_set {w W : World} {m : Bool} {L : List Int} (h : Two w W m L) (k : Nat) (x : Int) : Two w (W.setCell ⟨w.heap.size, 1 + k, none⟩ (.int .i64 x)) m (L.set k x) ∧ True := by
  refine ⟨⟨h.only.andThen (Only.setCell W ⟨w.heap.size, 1 + k, none⟩ _) (fun j hj => .inr (by simp at hj; omega)), ?_, ?_⟩, trivial⟩
  · have := Blk.set h.p (1 + k) (.int .i64 x)
    rw [Nat.add_comm 1 k, tcl_set] at this
    rw [Nat.add_comm 1 k]
    exact this
  · exact (Only.setCell W ⟨w.heap.size, 1 + k, none⟩ _).blk h.z (by simp)
set_option maxHeartbeats 2000000 in
theorem rtake_any (w : World) (m : Bool) (L : List Int) (h8 : L.length = 8) (c l : Int) : Calls Try.prog 8 #[.agg (tcl m L).toArray, .int .i64 c, .int .i64 l] w fun e w' =>
    e = .returned (.tuple #[.agg (tcl m (rtH m L c l)).toArray, .int .i64 (rtE m L c l)]) ∧ Only [] w w' := by
  have HT := hide (Two.start w m L)
  rw [z_eq] at HT
  have HW := hide (fun W => wrong_any W m L h8 c l)
  have H8 := hide h8
  have HZ := hide h0_length
  by_cases hwe : wrE m c l = 0
  · obtain rfl : m = true := by
      cases m
      · exact absurd (show (1 : Int) = 0 from hwe) (by decide)
      · rfl
    have ha : askE c l = 0 := hwe
    obtain ⟨⟨hc0, hc8⟩, hl0, hl3⟩ := askE_in ha
    obtain ⟨k, rfl, hk⟩ : ∃ k : Nat, c = (k : Int) ∧ k < 8 := ⟨c.toNat, by omega, by omega⟩
    have HFr := hide (fun W => rfree_any W true L h8 (k : Int) l hl0 hl3)
    rw [hwe] at HW
    have HE : Hid (rtE true L (k : Int) l = if gt L k < l then (if frB L (k : Int) l then 0 else 6) else 0) := by
      show tkE L (k : Int) l = _
      unfold tkE
      rw [if_pos ha]
      show (if l ≤ gt L k then _ else _) = _
      by_cases e : l ≤ gt L k
      · rw [if_pos e, if_neg (by omega)]
      · have e2 : gt L k < l := by omega
        simp only [if_neg e, if_pos e2]
    have HH : Hid (rtH true L (k : Int) l = if gt L k < l ∧ frB L (k : Int) l = true then L.set k l else L) := by
      show tkH L (k : Int) l = _
      unfold tkH; simp only [ha, true_and, Int.not_le]; rfl
    clear h8 hwe ha hl0 hl3 hc0 hc8
    have l0 : (0 : Int) ≤ (k : Int) := by omega
    have l1 : (k : Int) < 8 := by omega
    have HK := hide (show k < L.length by rw [H8.out]; exact hk)
    by_cases e1 : l ≤ gt L k
    · go_enter Try.func8, Try.ntmps8
      go_wp2_with (first
        | (refine wp_load29 H8.out HT.out.p.range _ (by rfl) (by rfl) (by rfl) ?_)
        | (go_at_call 17; with_reducible refine Calls.mono (HW.out _) ?_; rintro e w4 ⟨rfl, ho⟩; have HT4 := hide (HT.out.later ho); have c4 := HT4.out.p.held' HK.out; clear ho HT)
        | (refine wp_load29 H8.out HT4.out.p.range _ (by rfl) (by rfl) (by rfl) ?_)
        | (refine wp_store29 H8.out HZ.out HT4.out.z _ _ (by rfl) (by rfl) (by rfl) (by rfl) ?_; intro W5 hN5 hO5; have HN5 := hide hN5; have HO5 := hide (HT4.out.fin hO5); clear hN5 hO5))
      refine ret_tab2 H8.out (by rfl) (by rfl) (by rfl) HN5.out ?_
      refine ⟨?_, HO5.out⟩
      rw [HE.out, HH.out, if_neg (by omega), if_neg (by omega)]; rfl
    · cases hf : frB L (k : Int) l with
      | false =>
        rw [hf] at HFr
        go_enter Try.func8, Try.ntmps8
        go_wp2_with (first
          | (refine wp_load29 H8.out HT.out.p.range _ (by rfl) (by rfl) (by rfl) ?_)
          | (go_at_call 17; with_reducible refine Calls.mono (HW.out _) ?_; rintro e w4 ⟨rfl, ho⟩; have HT4 := hide (HT.out.later ho); have c4 := HT4.out.p.held' HK.out; clear ho HT)
          | (refine wp_load29 H8.out HT4.out.p.range _ (by rfl) (by rfl) (by rfl) ?_)
          | (go_at_call 18; with_reducible refine Calls.mono (HFr.out _) ?_; rintro e w5 ⟨rfl, ho⟩; have HT5 := hide (HT4.out.later ho); clear ho HT4 c4)
          | (refine wp_load29 H8.out HT5.out.p.range _ (by rfl) (by rfl) (by rfl) ?_)
          | (refine wp_store29 H8.out HZ.out HT5.out.z _ _ (by rfl) (by rfl) (by rfl) (by rfl) ?_; intro W5 hN5 hO5; have HN5 := hide hN5; have HO5 := hide (HT5.out.fin hO5); clear hN5 hO5))
        refine ret_tab2 H8.out (by rfl) (by rfl) (by rfl) HN5.out ?_
        refine ⟨?_, HO5.out⟩
        rw [HE.out, HH.out, if_neg (by rw [hf]; exact fun h => absurd h.2 (by decide)), if_pos (by omega), hf]; rfl
      | true =>
        rw [hf] at HFr
        have H82 := hide (show (L.set k l).length = 8 by rw [List.length_set]; exact H8.out)
        go_enter Try.func8, Try.ntmps8
        go_wp2_with (first
          | (refine wp_load29 H8.out HT.out.p.range _ (by rfl) (by rfl) (by rfl) ?_)
          | (go_at_call 17; with_reducible refine Calls.mono (HW.out _) ?_; rintro e w4 ⟨rfl, ho⟩; have HT4 := hide (HT.out.later ho); have c4 := HT4.out.p.held' HK.out; clear ho HT)
          | (refine wp_load29 H8.out HT4.out.p.range _ (by rfl) (by rfl) (by rfl) ?_)
          | (go_at_call 18; with_reducible refine Calls.mono (HFr.out _) ?_; rintro e w5 ⟨rfl, ho⟩; have HT5 := hide (HT4.out.later ho); have c5 := HT5.out.p.held' HK.out; have f5 := HT5.out.p.frozen (1 + k); clear ho HT4 c4)
          | (refine wp_load29 H82.out (two_set HT5.out k l).1.p.range _ (by rfl) (by rfl) (by rfl) ?_)
          | (refine wp_store29 H82.out HZ.out (two_set HT5.out k l).1.z _ _ (by rfl) (by rfl) (by rfl) (by rfl) ?_; intro W5 hN5 hO5; have HN5 := hide hN5; have HO5 := hide ((two_set HT5.out k l).1.fin hO5); clear hN5 hO5))
        refine ret_tab2 H82.out (by rfl) (by rfl) (by rfl) HN5.out ?_
        refine ⟨?_, HO5.out⟩
        rw [HE.out, HH.out, if_pos ⟨by omega, hf⟩, if_pos (by omega), hf]; rfl
  · have HE : Hid (rtE m L c l = wrE m c l) := by
      show rtE m L c l = _
      unfold rtE wrE at *
      cases m
      · rfl
      · simp only [if_true] at hwe ⊢
        unfold tkE
        rw [if_neg hwe]
        unfold askE at hwe ⊢
        split <;> simp_all
    have HH : Hid (rtH m L c l = L) := by
      show rtH m L c l = _
      unfold rtH wrE at *
      cases m
      · rfl
      · simp only [if_true] at hwe ⊢
        unfold tkH
        rw [if_neg (fun h => hwe h.1)]
    have b0 : (wrE m c l == 0) = false := by simpa using hwe
    rw [HE.out, HH.out]
    obtain ⟨E, hE⟩ : ∃ E, E = wrE m c l := ⟨_, rfl⟩
    rw [← hE] at HW hwe b0 ⊢
    clear h8 HE HH hE
    go_enter Try.func8, Try.ntmps8
    go_wp2_with (first
        | (refine wp_load29 H8.out HT.out.p.range _ (by rfl) (by rfl) (by rfl) ?_)
        | (go_at_call 17; with_reducible refine Calls.mono (HW.out _) ?_; rintro e w4 ⟨rfl, ho⟩; have HT4 := hide (HT.out.later ho); clear ho HT)
        | (refine wp_load29 H8.out HT4.out.p.range _ (by rfl) (by rfl) (by rfl) ?_)
        | (refine wp_store29 H8.out HZ.out HT4.out.z _ _ (by rfl) (by rfl) (by rfl) (by rfl) ?_; intro W5 hN5 hO5; have HN5 := hide hN5; have HO5 := hide (HT4.out.fin hO5); clear hN5 hO5))
    refine ret_tab2 H8.out (by rfl) (by rfl) (by rfl) HN5.out ?_
    exact ⟨rfl, HO5.out⟩
end Go.Proofs.Ythenbbpfbkmhnaa
