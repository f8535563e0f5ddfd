/- The document's space: Take of a new page. -/
/- The document's space: Give. -/
import Derived.Test.YtenfjbcigkolaaaGreatZN
import Derived.Test.YtenfjbcigkolaaaGreatZB
import Derived.Test.YtenfjbcigkolaaaGreatZK
namespace Go.Proofs.YtenfjbcigkolaaaGreat
variable {sv : Value}
open Go.ChangeShapes Go.WideShapes Go.ChangeAt Go.RowKit Go.Maps
set_option linter.unusedVariables false

theorem SpB.rng {w : World} {b : Nat} {d : Bool} {c : Int} {f : Value} {N : Nat → Nat} (h : SpB w b d c f N) : w.rangeAt b 0 (spL d c f N) := by
  have := Blk.range h
  simpa using this
set_option maxRecDepth 20000 in
set_option maxHeartbeats 1000000 in
theorem rtake_more (w : World) (c : Nat) (p : Option Addr) (cap : Nat) (N : Nat → Nat) (hc : c < 4096) : Calls Tryz.prog 39 #[.agg (spL true (c : Int) (.slice p 0 cap) N).toArray] w fun e w' => e = .returned (.tuple #[.agg (spL true ((c : Int) + 1) (.slice p 0 cap) N).toArray, .int .i64 ((c : Int) + 1), .int .i64 0]) ∧ Below w.heap.size w w' := by
  obtain ⟨W, hW, k1, k2, hb⟩ := two_sp w true (c : Int) (.slice p 0 cap) N
  have c0 := k1.c0
  have c1 := k1.c1
  have c2 := k1.c2
  have f1 := Blk.frozen k1 1
  have HI := hide (infoSp true ((c : Int) + 1) (.slice p 0 cap) N)
  have HSz := hide (sp_size true false ((c : Int) + 1) 0 (.slice p 0 cap) (.slice none 0 0) N zN)
  have HOn := hide (sp_one true ((c : Int) + 1) p 0 cap N)
  have HK1 := hide (k1.setC ((c : Int) + 1))
  have HK2 := hide (k2.far (a := w.heap.size) (o := 1) (by omega) (.int .i64 ((c : Int) + 1)))
  have HB := hide (hb.setCell (p := ⟨w.heap.size, 1, none⟩) (Nat.le_refl _) (.int .i64 ((c : Int) + 1)))
  have hw1 : IntKind.i64.wrap ((c : Int) + 1) = (c : Int) + 1 := by rw [IntKind.wrap_i64]; omega
  have l1 : ¬ (4096 : Int) ≤ (c : Int) := by omega
  have HWn := hide (show w.heap.size ≤ w.heap.size + 1 by omega)
  have HNe := hide (show w.heap.size ∉ [w.heap.size + 1] by simp)
  clear k1 k2 hb hc
  go_enter Tryz.func39, Tryz.ntmps39
  go_upto_region 1 with fail
  rw [← hW]
  clear hW
  go_upto_region 10 with fail
  generalize W.setCell ⟨w.heap.size, 1, none⟩ (.int .i64 ((c : Int) + 1)) = W2 at HK1 HK2 HB ⊢
  have hK1d : SpB W2.drew w.heap.size true ((c : Int) + 1) (.slice p 0 cap) N := HK1.out
  refine wp_region_held_drew (S := fun V => SpB V w.heap.size true ((c : Int) + 1) (.slice p 0 cap) N) (by kernel_rfl) hK1d (fun hHeld => ?_)
  refine wpAnyH_take (i := 0) (v := .agg (spL true ((c : Int) + 1) (.slice p 0 cap) N).toArray) rfl (by kernel_rfl) (by kernel_rfl) (by kernel_rfl) (fun _ _ _ h => h) (yieldsIf_load_mid (by rfl) _ _ rfl _ _ rfl _ _ (fun V hV => SpB.rng hV) Tryz.underlying66 rfl HI.out) hHeld ?_
  try simp only [Act.put, List.getElem_toArray, List.getElem_cons_zero, List.setIfInBounds_toArray, List.set_cons_zero, List.set_cons_succ]
  refine wpAnyH_take (i := 1) (v := .pointer (some ⟨w.heap.size, 1, none⟩)) rfl (by kernel_rfl) (by kernel_rfl) (by kernel_rfl) (fun _ _ _ h => h) (Or.inl ⟨by rfl, fun V hV => by (try dsimp only at hV); go_simp⟩) hHeld ?_
  try simp only [Act.put, List.getElem_toArray, List.getElem_cons_succ, List.getElem_cons_zero, List.setIfInBounds_toArray, List.set_cons_zero, List.set_cons_succ]
  refine wpAnyH_take (i := 2) (v := .int .i64 ((c : Int) + 1)) rfl (by kernel_rfl) (by kernel_rfl) (by kernel_rfl) (fun _ _ _ h => h) (Or.inl ⟨by rfl, fun V hV => by have := SpB.c1 hV; go_simp⟩) hHeld ?_
  try simp only [Act.put, List.getElem_toArray, List.getElem_cons_succ, List.getElem_cons_zero, List.setIfInBounds_toArray, List.set_cons_zero, List.set_cons_succ]
  refine wpAnyH_ready (rs := [3]) (by kernel_rfl) (by simp) ?_
  refine AllReadyH.cons rfl (fun KK hKK => ?_) AllReadyH.nil
  refine step_storeB (c := (spL true ((c : Int) + 1) (.slice p 0 cap) N).toArray) (z := (spL false 0 (.slice none 0 0) zN).toArray) HI.out HSz.out HOn.out HK2.out _ _ (by rfl) (by rfl) (by rfl) (by rfl) ?_
  intro W5 hb5 ho5
  have HF5 := hide hb5
  have HB5 := hide (below_only1 (below_trans HB.out (below_drew _)) ho5 HWn.out)
  refine hKK.out _ _ (Blk.only hK1d ho5 HNe.out) (fun hHeld => ?_)
  clear hKK KK ho5 hb5
  try simp only [Act.put, List.getElem_toArray, List.getElem_cons_succ, List.getElem_cons_zero]
  refine wpAnyH_take (i := 4) (v := .int .i64 ((c : Int) + 1)) rfl (by kernel_rfl) (by kernel_rfl) (by kernel_rfl) (fun _ _ _ h => h) (Or.inl ⟨by rfl, fun V hV => by (try dsimp only at hV); go_simp⟩) hHeld ?_
  try simp only [Act.put, List.getElem_toArray, List.getElem_cons_succ, List.getElem_cons_zero, List.setIfInBounds_toArray, List.set_cons_zero, List.set_cons_succ]
  refine wpAnyH_take (i := 5) (v := .int .i64 0) rfl (by kernel_rfl) (by kernel_rfl) (by kernel_rfl) (fun _ _ _ h => h) (Or.inl ⟨by rfl, fun V hV => by (try dsimp only at hV); go_simp⟩) hHeld ?_
  try simp only [Act.put, List.getElem_toArray, List.getElem_cons_succ, List.getElem_cons_zero, List.setIfInBounds_toArray, List.set_cons_zero, List.set_cons_succ]
  refine wpAnyH_done (by kernel_rfl) ?_ _
  clear hHeld
  go_wp2_with fail
  refine ret_sp3 (c := (spL true ((c : Int) + 1) (.slice p 0 cap) N).toArray) HI.out uSp Tryz.results39 (by rfl) (by rfl) (by rfl) HF5.out ?_
  exact ⟨rfl, HB5.out⟩
end Go.Proofs.YtenfjbcigkolaaaGreat

namespace Go.Proofs.YtenfjbcigkolaaaGreat
variable {sv : Value}
open Go.ChangeShapes Go.WideShapes Go.ChangeAt Go.RowKit Go.Maps
set_option linter.unusedVariables false

set_option maxRecDepth 20000 in
theorem rgive_bad (w : World) (c x : Int) (p : Option Addr) (l cap : Nat) (N : Nat → Nat) : Calls Tryz.prog 42 #[.agg (spL false c (.slice p l cap) N).toArray, .int .i64 x] w fun e w' => e = .returned (.tuple #[.agg (spL false c (.slice p l cap) N).toArray, .int .i64 8]) ∧ Below w.heap.size w w' := by
  obtain ⟨W, hW, k1, k2, hb⟩ := two_sp w false c (.slice p l cap) N
  have c0 := k1.c0
  have HI := hide (infoSp false c (.slice p l cap) N)
  have HSz := hide (sp_size false false c 0 (.slice p l cap) (.slice none 0 0) N zN)
  have HOn := hide (sp_one false c p l cap N)
  have HK1 := hide k1
  have HK2 := hide k2
  have HB := hide hb
  have HWn := hide (show w.heap.size ≤ w.heap.size + 1 by omega)
  clear k1 k2 hb
  go_enter Tryz.func42, Tryz.ntmps42
  go_upto_region 1 with fail
  rw [← hW]
  clear hW
  go_wp2_with (first
    | ((with_reducible refine atLd 66 ?_); refine wp_loadB (c := (spL false c (.slice p l cap) N).toArray) HI.out uSp HK1.out _ (by rfl) (by rfl) (by rfl) ?_)
    | ((with_reducible refine atSt 66 ?_); refine wp_storeB (c := (spL false c (.slice p l cap) N).toArray) HI.out HSz.out HOn.out HK2.out _ _ (by rfl) (by rfl) (by rfl) (by rfl) ?_; intro W5 hb5 ho5; have HF5 := hide hb5; have HB5 := hide (below_only1 HB.out ho5 HWn.out); clear hb5 ho5))
  refine ret_blk2 (c := (spL false c (.slice p l cap) N).toArray) HI.out uSp Tryz.results42 (by rfl) (by rfl) HF5.out ?_
  exact ⟨rfl, HB5.out⟩
set_option maxRecDepth 20000 in
theorem rgive_arg (w : World) (c x : Int) (p : Option Addr) (l cap : Nat) (N : Nat → Nat) (hx : mbF x c = false) : Calls Tryz.prog 42 #[.agg (spL true c (.slice p l cap) N).toArray, .int .i64 x] w fun e w' => e = .returned (.tuple #[.agg (spL true c (.slice p l cap) N).toArray, .int .i64 2]) ∧ Below w.heap.size w w' := by
  obtain ⟨W, hW, k1, k2, hb⟩ := two_sp w true c (.slice p l cap) N
  have c0 := k1.c0
  have c1 := k1.c1
  have HI := hide (infoSp true c (.slice p l cap) N)
  have HSz := hide (sp_size true false c 0 (.slice p l cap) (.slice none 0 0) N zN)
  have HOn := hide (sp_one true c p l cap N)
  have HK1 := hide k1
  have HK2 := hide k2
  have HB := hide hb
  have HWn := hide (show w.heap.size ≤ w.heap.size + 1 by omega)
  have hx' : x < 2 ∨ (¬ x < 2 ∧ c < x) := by
    have := of_decide_eq_false hx
    omega
  clear k1 k2 hb hx
  rcases hx' with hx1 | ⟨hx1, hx2⟩
  all_goals
    go_enter Tryz.func42, Tryz.ntmps42
    go_upto_region 1 with fail
    rw [← hW]
    clear hW
    go_wp2_with (first
      | ((with_reducible refine atLd 66 ?_); refine wp_loadB (c := (spL true c (.slice p l cap) N).toArray) HI.out uSp HK1.out _ (by rfl) (by rfl) (by rfl) ?_)
      | ((with_reducible refine atSt 66 ?_); refine wp_storeB (c := (spL true c (.slice p l cap) N).toArray) HI.out HSz.out HOn.out HK2.out _ _ (by rfl) (by rfl) (by rfl) (by rfl) ?_; intro W5 hb5 ho5; have HF5 := hide hb5; have HB5 := hide (below_only1 HB.out ho5 HWn.out); clear hb5 ho5))
    refine ret_blk2 (c := (spL true c (.slice p l cap) N).toArray) HI.out uSp Tryz.results42 (by rfl) (by rfl) HF5.out ?_
    exact ⟨rfl, HB5.out⟩
/-- A row that is owned as a row of free pages. -/
theorem frp_own {w : World} {base n cap : Nat} {p : Option Addr} {G : List Nat} (h : w.ownsRow base 3 1 (.slice p G.length cap) G.length (inL G)) : FrP w p cap G := by
  have h1 := h.1
  rcases h.2 with ⟨e, h0⟩ | ⟨g, cap', cur, e, hb, hh, hn, hm, hs, ht⟩
  · injection e with e1 e2 e3
    subst e1
    have : G = [] := List.eq_nil_of_length_eq_zero h0
    subst this
    exact ⟨by simp, fun _ => ⟨rfl, e3⟩, fun h => by simp at h⟩
  · injection e with e1 e2 e3
    subst e1; subst e3
    refine ⟨hn, (fun h => by cases h), fun _ => ⟨g, 0, rfl, ⟨cur, hh⟩, fun j x hj => ?_⟩⟩
    have hlt : j < G.length := (List.getElem?_eq_some_iff.1 hj).1
    have := h.cellAt j (by omega)
    rw [Nat.zero_add, this]
    simp [inL, hj]
/-- What Give of the document leaves. -/
structure RgW (w w' : World) (p' : Option Addr) (cap' : Nat) (G : List Nat) : Prop where
  fr : FrP w' p' cap' G
  bel : Below w.heap.size w w'
theorem one_own (W : World) (x : Nat) : (W.alloc (.cells #[.int .i64 (x : Int)] 3)).ownsRow W.heap.size 3 1 (.slice (some ⟨W.heap.size, 0, none⟩) 1 1) 1 (inL [x]) :=
  ⟨rfl, .inr ⟨W.heap.size, 1, #[.int .i64 (x : Int)], rfl, Nat.le_refl _, Blk.new _ _ _, Nat.le_refl _, by simp [maxLen], rfl, rfl⟩⟩
set_option maxRecDepth 20000 in
set_option maxHeartbeats 2000000 in
theorem rgive_cons (w : World) (c x : Nat) (b o cap : Nat) (g : Nat) (G : List Nat) (N : Nat → Nat) (hf : FrP w (some ⟨b, o, none⟩) cap (g :: G)) (hG : G.length ≤ 5000) (h1 : 2 ≤ x) (h2 : x ≤ c) : Calls Tryz.prog 42 #[.agg (spL true (c : Int) (.slice (some ⟨b, o, none⟩) (G.length + 1) cap) N).toArray, .int .i64 (x : Int)] w fun e w' => ∃ p' cap', e = .returned (.tuple #[.agg (spL true (c : Int) (.slice p' (G.length + 2) cap') N).toArray, .int .i64 0]) ∧ RgW w w' p' cap' (x :: g :: G) := by
  obtain ⟨W, hW, k1, k2, hb⟩ := two_sp w true (c : Int) (.slice (some ⟨b, o, none⟩) (G.length + 1) cap) N
  have c0 := k1.c0
  have c1 := k1.c1
  have HK := hide (fun V (hv : Below W.heap.size W V) => And.intro (SpB.later k1 hv).c2 (And.intro (Blk.frozen (SpB.later k1 hv) 2) (And.intro (SpB.later k1 hv) (SpB.later k2 hv))))
  have c2a := (HK.out _ (below_alloc W (.cells #[.int .i64 (x : Int)] 3))).1
  have HOw := hide (one_own W x)
  have HNw := hide (fun j u (hj : (inL (g :: G))[j]? = some u) => (show (W.alloc (.cells #[.int .i64 (x : Int)] 3)).cell? ((⟨b, o, none⟩ : Addr).add j) = some u by
    obtain ⟨b', o', e, hc, hg⟩ := ((hf.later hb).later (below_alloc W (.cells #[.int .i64 (x : Int)] 3))).2.2 (by simp)
    simp only [Option.some.injEq, Addr.mk.injEq] at e
    obtain ⟨rfl, rfl, _⟩ := e
    rw [add_plain]
    simp only [inL, List.getElem?_map] at hj
    cases hq : (g :: G)[j]? with
    | none => rw [hq] at hj; cases hj
    | some y =>
      rw [hq] at hj
      simp only [Option.map_some, Option.some.injEq] at hj
      subst hj
      exact hg j y hq))
  have HN1 : Hid (∀ u ∈ inL (g :: G), u.oneCell' = true) := hide (fun u hu => by
    simp only [inL, List.mem_map] at hu
    obtain ⟨y, _, rfl⟩ := hu
    rfl)
  have HLn : Hid ((inL (g :: G)).length = (G.length + 1) * 1) := hide (by simp [inL])
  have HBs : Hid ((1 + (G.length + 1)) * 8 ≤ 140737488355328) := hide (by omega)
  have HWs : Hid (W.heap.size ≤ (W.alloc (.cells #[.int .i64 (x : Int)] 3)).heap.size) := hide (below_alloc W _).size
  have HB := hide hb
  have l1 : ¬ (x : Int) < 2 := by omega
  have l2 : ¬ (c : Int) < (x : Int) := by omega
  have HI := hide (fun (f : Value) => infoSp true (c : Int) f N)
  have HOn := hide (fun p l k => sp_one true (c : Int) p l k N)
  have HSz := hide (fun (f : Value) => sp_size true false (c : Int) 0 f (.slice none 0 0) N zN)
  have HWn := hide (show w.heap.size ≤ w.heap.size + 1 by omega)
  have HNe := hide (show w.heap.size + 1 ≠ w.heap.size by omega)
  clear k1 k2 hb hf hG h1 h2
  go_enter Tryz.func42, Tryz.ntmps42
  go_upto_region 1 with fail
  rw [← hW]
  clear hW
  go_wp2_with (first
    | (at_builtin; refine wp_appI HOw.out (m := G.length + 1) (news := inL (g :: G)) HLn.out HNw.out HN1.out HBs.out HWs.out _ _ (by rfl) (by rfl) (by rfl) (by rfl) ?_; intro v5 w5 ho5 hb5; obtain ⟨p5, k5, rfl, _, _, _⟩ := own_formC ho5; have hbl := hb5 _ (below_alloc W (.cells #[.int .i64 (x : Int)] 3)); obtain ⟨c25, f25, q1, q2⟩ := HK.out _ hbl; have HQ1 := hide (q1.setF (.slice p5 (1 + (G.length + 1)) k5)); have HQ2 := hide (SpB.far q2 HNe.out (o := 2) (.slice p5 (1 + (G.length + 1)) k5)); have HSp := hide (And.intro q1 q2); have HO5 := hide ho5; have HB5 := hide (Below.setCell (below_trans HB.out hbl) (p := ⟨w.heap.size, 2, none⟩) (Nat.le_refl _) (.slice p5 (1 + (G.length + 1)) k5)); clear ho5 hb5 hbl q1 q2)
    | ((with_reducible refine atLd 66 ?_); refine wp_loadB (c := (spL true (c : Int) (.slice p5 (1 + (G.length + 1)) k5) N).toArray) (HI.out _) uSp HQ1.out _ (by rfl) (by rfl) (by rfl) ?_)
    | ((with_reducible refine atSt 66 ?_); refine wp_storeB (c := (spL true (c : Int) (.slice p5 (1 + (G.length + 1)) k5) N).toArray) (HI.out _) (HSz.out _) (HOn.out _ _ _) HQ2.out _ _ (by rfl) (by rfl) (by rfl) (by rfl) ?_; intro W6 hb6 ho6; have HF6 := hide hb6; have HO6 := hide ho6; have HB6 := hide (below_only1 HB5.out ho6 HWn.out); clear hb6 ho6))
  refine ret_blk2 (c := (spL true (c : Int) (.slice p5 (1 + (G.length + 1)) k5) N).toArray) (HI.out _) uSp Tryz.results42 (by rfl) (by rfl) HF6.out ?_
  refine ⟨p5, k5, by rw [show 1 + (G.length + 1) = G.length + 2 by omega]; rfl, ?_, HB6.out⟩
  have ho : w5.ownsRow W.heap.size 3 1 (.slice p5 (x :: g :: G).length k5) (x :: g :: G).length (inL (x :: g :: G)) := by
    have := HO5.out
    rw [show 1 + (G.length + 1) = (x :: g :: G).length by simp; omega] at this
    exact this
  refine FrP.only (FrP.only (frp_own (n := 0) ho) (Only.setCell w5 ⟨w.heap.size, 2, none⟩ (.slice p5 (1 + (G.length + 1)) k5)) ?_) HO6.out ?_
  · intro k hk cc hc
    simp at hk
    subst hk
    exact blk_ne HSp.out.1 hc (by decide) rfl
  · intro k hk cc hc
    simp at hk
    subst hk
    exact blk_ne HQ2.out hc (by decide) rfl
set_option maxRecDepth 20000 in
set_option maxHeartbeats 2000000 in
theorem rgive_nil (w : World) (c x : Nat) (p : Option Addr) (cap : Nat) (N : Nat → Nat) (h1 : 2 ≤ x) (h2 : x ≤ c) : Calls Tryz.prog 42 #[.agg (spL true (c : Int) (.slice p 0 cap) N).toArray, .int .i64 (x : Int)] w fun e w' => ∃ p' cap', e = .returned (.tuple #[.agg (spL true (c : Int) (.slice p' 1 cap') N).toArray, .int .i64 0]) ∧ RgW w w' p' cap' [x] := by
  obtain ⟨W, hW, k1, k2, hb⟩ := two_sp w true (c : Int) (.slice p 0 cap) N
  have c0 := k1.c0
  have c1 := k1.c1
  have hv := below_alloc W (.cells #[.int .i64 (x : Int)] 3)
  have c2a := (SpB.later k1 hv).c2
  have f2a := Blk.frozen (SpB.later k1 hv) 2
  have HQ1 := hide ((SpB.later k1 hv).setF (.slice (some ⟨W.heap.size, 0, none⟩) 1 1))
  have HQ2 := hide ((SpB.later k2 hv).far (a := w.heap.size) (o := 2) (by omega) (.slice (some ⟨W.heap.size, 0, none⟩) 1 1))
  have HSp := hide (SpB.later k1 hv)
  have HOw := hide (one_own W x)
  have HB5 := hide ((below_trans hb hv).setCell (p := ⟨w.heap.size, 2, none⟩) (Nat.le_refl _) (.slice (some ⟨W.heap.size, 0, none⟩) 1 1))
  have l1 : ¬ (x : Int) < 2 := by omega
  have l2 : ¬ (c : Int) < (x : Int) := by omega
  have HI := hide (fun (f : Value) => infoSp true (c : Int) f N)
  have HOn := hide (fun p l k => sp_one true (c : Int) p l k N)
  have HSz := hide (fun (f : Value) => sp_size true false (c : Int) 0 f (.slice none 0 0) N zN)
  have HWn := hide (show w.heap.size ≤ w.heap.size + 1 by omega)
  clear k1 k2 hb hv h1 h2
  cases p
  all_goals
    go_enter Tryz.func42, Tryz.ntmps42
    go_upto_region 1 with fail
    rw [← hW]
    clear hW
    go_wp2_with (first
      | ((with_reducible refine atLd 66 ?_); refine wp_loadB (c := (spL true (c : Int) (.slice (some ⟨W.heap.size, 0, none⟩) 1 1) N).toArray) (HI.out _) uSp HQ1.out _ (by rfl) (by rfl) (by rfl) ?_)
      | ((with_reducible refine atSt 66 ?_); refine wp_storeB (c := (spL true (c : Int) (.slice (some ⟨W.heap.size, 0, none⟩) 1 1) N).toArray) (HI.out _) (HSz.out _) (HOn.out _ _ _) HQ2.out _ _ (by rfl) (by rfl) (by rfl) (by rfl) ?_; intro W6 hb6 ho6; have HF6 := hide hb6; have HO6 := hide ho6; have HB6 := hide (below_only1 HB5.out ho6 HWn.out); clear hb6 ho6))
    refine ret_blk2 (c := (spL true (c : Int) (.slice (some ⟨W.heap.size, 0, none⟩) 1 1) N).toArray) (HI.out _) uSp Tryz.results42 (by rfl) (by rfl) HF6.out ?_
    refine ⟨_, 1, rfl, ?_, HB6.out⟩
    refine FrP.only (FrP.only (frp_own (n := 0) (G := [x]) HOw.out) (Only.setCell _ ⟨w.heap.size, 2, none⟩ (.slice (some ⟨W.heap.size, 0, none⟩) 1 1)) ?_) HO6.out ?_
    · intro k hk cc hc
      simp at hk
      subst hk
      exact blk_ne HSp.out hc (by decide) rfl
    · intro k hk cc hc
      simp at hk
      subst hk
      exact blk_ne HQ2.out hc (by decide) rfl
theorem rgive_ok (w : World) (c x : Nat) (p : Option Addr) (cap : Nat) (G : List Nat) (N : Nat → Nat) (hf : FrP w p cap G) (hG : G.length ≤ 5000) (h1 : 2 ≤ x) (h2 : x ≤ c) : Calls Tryz.prog 42 #[.agg (spL true (c : Int) (.slice p G.length cap) N).toArray, .int .i64 (x : Int)] w fun e w' => ∃ p' cap', e = .returned (.tuple #[.agg (spL true (c : Int) (.slice p' (G.length + 1) cap') N).toArray, .int .i64 0]) ∧ RgW w w' p' cap' (x :: G) := by
  cases G with
  | nil => exact rgive_nil w c x p cap N h1 h2
  | cons g G =>
    obtain ⟨b, o, rfl, _⟩ := hf.2.2 (by simp)
    exact rgive_cons w c x b o cap g G N hf (by simp at hG; omega) h1 h2
end Go.Proofs.YtenfjbcigkolaaaGreat
