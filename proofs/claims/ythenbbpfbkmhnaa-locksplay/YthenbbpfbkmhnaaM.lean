/- What a table must tell: the law's look, of a lock that there is. -/
import Derived.Test.YthenbbpfbkmhnaaK
namespace Go.Proofs.Ythenbbpfbkmhnaa
open Go.ChangeShapes Go.WideShapes Go.ChangeAt Go.RowKit
set_option linter.unusedVariables false

theorem hol_mono (h : List Int) (l : Int) : ∀ (d j : Nat), ∃ r, hol h l (j + d) = hol h l j ++ r
  | 0, j => ⟨[], by simp⟩
  | d + 1, j => by
    obtain ⟨r, hr⟩ := hol_mono h l d j
    rw [← Nat.add_assoc, hol_succ, hr, List.append_assoc]
    exact ⟨_, rfl⟩
theorem hol_at {h : List Int} {l : Int} {j : Nat} (hj : j < 8) (e : l ≤ gt h j) : (hol h l 8)[(hol h l j).length]? = some (j : Int) := by
  obtain ⟨r, hr⟩ := hol_mono h l (8 - (j + 1)) (j + 1)
  rw [show j + 1 + (8 - (j + 1)) = 8 by omega] at hr
  rw [hr, hol_succ, if_pos e, List.append_assoc, List.getElem?_append_right (Nat.le_refl _), Nat.sub_self]
  rfl
theorem hol_lt {h : List Int} {l : Int} {j : Nat} (hj : j < 8) (e : l ≤ gt h j) : (hol h l j).length < (hol h l 8).length := (List.getElem?_eq_some_iff.1 (hol_at hj e)).1

/-- The list that Holders handed out, in a block of its own; its cells may have turned. -/
def OutP (w : World) (base : Nat) (p : Option Addr) (n : Nat) (f : Nat → Int) : Prop := 0 < n → ∃ g, ∃ cur : Array Value, p = some ⟨g, 0, none⟩ ∧ base ≤ g ∧ Blk w g cur 3 ∧ n ≤ cur.size ∧ ∀ i, i < n → cur[i]? = some (.int .i64 (f i))
theorem out_of_own {w : World} {base : Nat} {v : Value} {xs : List Int} (h : w.ownsRow base 3 1 v xs.length (hcl xs)) : ∃ p cap, v = .slice p xs.length cap ∧ OutP w base p xs.length (gt xs) := by
  rcases h.2 with ⟨rfl, h0⟩ | ⟨g, cap, cur, rfl, hbg, hg, hnc, hcm, hcs, htake⟩
  · exact ⟨none, 0, by rw [h0], fun h => by omega⟩
  · refine ⟨_, cap, rfl, fun _ => ⟨g, cur, rfl, hbg, hg, by omega, fun i hi => ?_⟩⟩
    have hc := h.cells (g := g) rfl i (.int .i64 (gt xs i)) (hcl_get hi)
    rw [show (⟨g, 0, none⟩ : Addr).add i = ⟨g, i, none⟩ by unfold Addr.add; split <;> simp_all, Blk.cell hg] at hc
    exact hc
theorem OutP.set {w : World} {base : Nat} {n : Nat} {g : Nat} {f : Nat → Int} (h : OutP w base (some ⟨g, 0, none⟩) n f) (i : Nat) (x : Int) : OutP (w.setCell ⟨g, i, none⟩ (.int .i64 x)) base (some ⟨g, 0, none⟩) n (fun j => if j = i then x else f j) := fun h0 => by
  obtain ⟨g', cur, e, hb, hg, hn, hc⟩ := h h0
  obtain rfl : g = g' := by simpa using e
  refine ⟨g, _, rfl, hb, Blk.set hg i (.int .i64 x), by simpa using hn, fun j hj => ?_⟩
  rw [Array.getElem?_setIfInBounds]
  by_cases e2 : i = j
  · subst e2; simp; omega
  · rw [if_neg e2]; show _ = some (Value.int .i64 (if j = i then x else f j)); rw [if_neg (Ne.symm e2)]; exact hc j hj
theorem holders_out (w : World) (g : Nat) (L : List Int) (h8 : L.length = 8) (hb : TB w g L) (l : Int) (hl : okL l = true) (N : Nat) (hN : N = (hol L l 8).length) (B : Nat) (hB : B ≤ w.heap.size) : Calls Try.prog 14 #[.pointer (some ⟨g, 0, none⟩), .int .i64 l] w fun e w' =>
    (∃ p cap, e = .returned (.slice p N cap) ∧ OutP w' B p N (gt (hol L l 8))) ∧ Only [] w w' := by
  refine (holders_ok w g L h8 hb l hl).mono ?_
  rintro e w' ⟨⟨v, rfl, h⟩, ho⟩
  obtain ⟨p, cap, rfl, h2⟩ := out_of_own h
  subst hN
  exact ⟨⟨p, cap, rfl, fun h0 => by
    obtain ⟨g1, cur, e, hb1, r⟩ := h2 h0
    exact ⟨g1, cur, e, by omega, r⟩⟩, ho⟩
theorem gt_of_some {xs : List Int} {i : Nat} {x : Int} (h : xs[i]? = some x) : gt xs i = x := by unfold gt; rw [h]; rfl

set_option maxHeartbeats 4000000 in
theorem look_ok (w : World) (g : Nat) (L : List Int) (h8 : L.length = 8) (hb : TB w g L) (c l : Int) (hl : okL l = true) : Calls Try.prog 12 #[.pointer (some ⟨g, 0, none⟩), .agg (tcl true L).toArray, .int .i64 c, .int .i64 l] w fun e w' => e = .returned (.bool true) ∧ Only [] w w' := by
  have H8 := hide h8
  have HB := hide hb
  have HLo := hide hl
  clear h8 hb hl
  go_enter Try.func12, Try.ntmps12
  go_wp2_with fail
  go_loopw [9] (fun iv wr => ∃ j : Nat, j ≤ 8 ∧ iv = .int .i64 (j : Int) ∧ Lk w wr true L) (fun iv _ => 8 - (intOf iv).toNat)
  case atStart => exact ⟨0, Nat.zero_le _, rfl, Lk.start _ _ _⟩
  case round =>
    obtain ⟨j, hj, rfl, hlk⟩ := hrel
    have HL := hide hlk
    clear hlk
    by_cases hlt : j < 8
    · have l1 : (j : Int) < 8 := by omega
      have l0 : (0 : Int) ≤ (j : Int) := by omega
      have hw1 : IntKind.i64.wrap ((j : Int) + 1) = (j : Int) + 1 := by rw [IntKind.wrap_i64]; omega
      have HS0 := hide (HL.out.drew.p.held' (k := j) (by rw [H8.out]; exact hlt))
      have HHs := hide (has_in wr.drew g L H8.out (HL.out.drew.only.blk HB.out (by simp)) j hlt)
      have b0 : (gt L j != gt L j) = false := by simp
      go_wp2_with fail
      go_region_held3 (fun V => V.cell? ⟨w.heap.size, 1 + j, none⟩ = some (.int .i64 (gt L j))) (first | with_reducible exact HS0.out) (first
        | (go_at_call 13; with_reducible refine Calls.mono HHs.out ?_; rintro e w4 ⟨rfl, rfl⟩))
      all_goals (try go_wp2)
      refine ⟨⟨j + 1, hlt, rfl, HL.out.drew⟩, ?_⟩
      simp only [intOf]; omega
    · obtain rfl : j = 8 := by omega
      have c0 := HL.out.p.made
      have a1 : ¬ l < 0 := by have := of_decide_eq_true HLo.out; omega
      have a2 : ¬ 3 < l := by have := of_decide_eq_true HLo.out; omega
      obtain ⟨N, hN⟩ : ∃ N, N = (hol L l 8).length := ⟨_, rfl⟩
      have HN := hide hN
      have HN8 := hide (show N ≤ 8 by rw [hN]; exact hol_length L l 8)
      have HHo := hide (holders_out wr g L H8.out (HL.out.only.blk HB.out (by simp)) l HLo.out N hN w.heap.size HL.out.only.size)
      clear hN
      go_wp2_with (first
          | (go_at_call 14; with_reducible refine Calls.mono HHo.out ?_; rintro e w4 ⟨⟨p4, cap4, rfl, hw4⟩, ho4⟩; have HL4 := hide (HL.out.later ho4); have HP4 := hide hw4; have c4 := HL4.out.p.made; clear hw4 ho4 HHo))
      go_loopw [11, 12] (fun nv iv wq => ∃ j : Nat, j ≤ 8 ∧ iv = .int .i64 (j : Int) ∧ nv = .int .i64 ((hol L l j).length : Int) ∧ wq = w4) (fun _ iv _ => 8 - (intOf iv).toNat)
      case atStart => exact ⟨0, Nat.zero_le _, rfl, rfl, rfl⟩
      case round =>
        obtain ⟨j, hj, rfl, rfl, rfl⟩ := hrel
        by_cases hlt : j < 8
        · have l1 : (j : Int) < 8 := by omega
          have l0 : (0 : Int) ≤ (j : Int) := by omega
          have hw1 : IntKind.i64.wrap ((j : Int) + 1) = (j : Int) + 1 := by rw [IntKind.wrap_i64]; omega
          have ck := HL4.out.p.held' (k := j) (by rw [H8.out]; exact hlt)
          by_cases e1 : l ≤ gt L j
          · have hlt2 : (hol L l j).length < N := by rw [HN.out]; exact hol_lt hlt e1
            obtain ⟨g5, cur5, rfl, hb5, hg5, hn5, hc5⟩ := HP4.out (by omega)
            have HS : Hid ((hol L l (j + 1)).length = (hol L l j).length + 1) := by show (hol L l (j + 1)).length = _; rw [hol_succ, if_pos e1]; simp
            have cx : wr.cell? ⟨g5, (hol L l j).length, none⟩ = some (.int .i64 (j : Int)) := by
              rw [Blk.cell hg5, hc5 _ hlt2, gt_of_some (hol_at hlt e1)]
            have HM := hide (hol_length L l j)
            obtain ⟨q, hq⟩ : ∃ q, q = (hol L l j).length := ⟨_, rfl⟩
            rw [← hq] at hlt2 HS cx HM ⊢
            have l2 : ¬ (N : Int) ≤ (q : Int) := by omega
            have l3 : (0 : Int) ≤ (q : Int) := by omega
            have l4 : (q : Int) < (N : Int) := by omega
            have hw2 : IntKind.i64.wrap ((q : Int) + 1) = (q : Int) + 1 := by have := HM.out; rw [IntKind.wrap_i64]; omega
            clear hq hb5 hg5 hn5 hc5
            go_wp2
            refine ⟨⟨j + 1, hlt, rfl, ?_, by trivial⟩, ?_⟩
            · rw [HS.out]; rfl
            · simp only [intOf]; omega
          · have HS : Hid ((hol L l (j + 1)).length = (hol L l j).length) := by show (hol L l (j + 1)).length = _; rw [hol_succ, if_neg e1, List.append_nil]
            go_wp2
            refine ⟨⟨j + 1, hlt, rfl, ?_, by trivial⟩, ?_⟩
            · rw [HS.out]
            · simp only [intOf]; omega
        · obtain rfl : j = 8 := by omega
          rw [← HN.out]
          go_wp2
          go_loopw [13] (fun iv wq => ∃ j : Nat, j ≤ N ∧ iv = .int .i64 (j : Int) ∧ Only [] w wq ∧ ∃ f, OutP wq w.heap.size p4 N f) (fun iv _ => N - (intOf iv).toNat)
          case atStart => exact ⟨0, Nat.zero_le _, rfl, HL4.out.only, _, HP4.out⟩
          case round =>
            obtain ⟨j, hj, rfl, ho6, f6, hp6⟩ := hrel
            have HO6 := hide ho6
            have HP6 := hide hp6
            clear ho6 hp6
            by_cases hlt : j < N
            · obtain ⟨g5, cur5, rfl, hb5, hg5, hn5, hc5⟩ := HP6.out (by omega)
              have HB5 := hide hb5
              have l1 : (j : Int) < (N : Int) := by omega
              have l0 : (0 : Int) ≤ (j : Int) := by omega
              have hw1 : IntKind.i64.wrap ((j : Int) + 1) = (j : Int) + 1 := by have := HN8.out; rw [IntKind.wrap_i64]; omega
              have cx := (Blk.cell hg5 j).trans (hc5 j hlt)
              have fx := Blk.frozen hg5 j
              clear hb5 hg5 hn5 hc5
              go_wp2
              refine ⟨⟨j + 1, hlt, rfl, ?_, _, HP6.out.set j 77⟩, ?_⟩
              · exact HO6.out.andThen (Only.setCell _ ⟨g5, j, none⟩ _) (fun i hi => .inr (by have := HB5.out; simp at hi; omega))
              · simp only [intOf]; omega
            · obtain rfl : j = N := by omega
              have HTx := hide (HO6.out.blk HB.out (by simp))
              by_cases d1 : 0 ≤ c
              · by_cases d2 : c < 8
                · go_wp2
                  go_ret
                  exact ⟨rfl, HO6.out⟩
                · have HHc := hide (has_out _ g L HTx.out c (decide_eq_false (by omega)))
                  go_wp2_with (first
                    | (go_at_call 13; with_reducible refine Calls.mono HHc.out ?_; rintro e w7 ⟨rfl, rfl⟩))
                  go_ret
                  exact ⟨rfl, HO6.out⟩
              · have HHc := hide (has_out _ g L HTx.out c (decide_eq_false (by omega)))
                go_wp2_with (first
                  | (go_at_call 13; with_reducible refine Calls.mono HHc.out ?_; rintro e w7 ⟨rfl, rfl⟩))
                go_ret
                exact ⟨rfl, HO6.out⟩
end Go.Proofs.Ythenbbpfbkmhnaa
