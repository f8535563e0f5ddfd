/- Package spill: Drop of a chain that is there, exactly. -/
import Derived.Test.YthgclfhfipfknaaGreatPPL
import Derived.Test.YthgclfhfipfknaaGreatPPM
import Derived.Test.YthgclfhfipfknaaGreatPNG
namespace Go.Proofs.YthgclfhfipfknaaGreat
variable {sv : Value}
open Go.ChangeShapes Go.WideShapes Go.ChangeAt Go.RowKit Go.Maps Go.Shelf
set_option linter.unusedVariables false

/-- What Drop of a chain leaves. -/
def DpE (w w' : World) (B0 t pm n base : Nat) (P : Nat → List UInt8) (K : Nat) (F : List Nat) (N : Nat → Nat) (G : List Nat) : Prop := ∃ sv' P' K', Sp sv' w' t pm n P' K' (G ++ F) N ∧ K' ≤ K + 3 * G.length ∧ (∀ j, 2 ≤ j → j ∉ G → P' j = P j) ∧ Sv w' base sv' [] pm ∧ Kb B0 95 w w'
theorem dpe_none {w w' : World} {B0 t pm n base : Nat} {P : Nat → List UInt8} {K : Nat} {F : List Nat} {N : Nat → Nat} (h : Sp sv w t pm n P K F N) (hs : Sv w base sv [] pm) (hb : Below w.heap.size w w') (h0 : B0 ≤ w.heap.size) : DpE w w' B0 t pm n base P K F N [] :=
  ⟨sv, P, K, h.later hb, by simp, fun _ _ _ => rfl, hs.later hb, Kb.of_below hb h0⟩
theorem dpe_some {w w7 w9 : World} {B0 t pm n base : Nat} {P : Nat → List UInt8} {K : Nat} {F : List Nat} {N : Nat → Nat} {G : List Nat} (hb : Below w.heap.size w w7) (h0 : B0 ≤ w.heap.size) (h : DkE w7 w9 B0 t pm n base P K F N G.reverse) : DpE w w9 B0 t pm n base P K F N G := by
  obtain ⟨sv', P', K', h1, h2, h3, h4, h5⟩ := h
  rw [List.reverse_reverse] at h1
  rw [List.length_reverse] at h2
  exact ⟨sv', P', K', h1, h2, fun j hj hn => h3 j hj (fun hm => hn (List.mem_reverse.1 hm)), h4, (Kb.of_below hb h0).trans h5⟩
set_option maxRecDepth 100000 in
set_option maxHeartbeats 4000000 in
theorem drop_g (w : World) (B0 t pm n base : Nat) {P : Nat → List UInt8} {K : Nat} {F : List Nat} {N : Nat → Nat} (h : Sp sv w t pm n P K F N) (hs : Sv w base sv [] pm) (hK : K ≤ 80000) (s : ByteArray) (hsz : s.size ≤ 140737488355328) (d : List UInt8) (G : List Nat) (hR : foundR P n s = some (d, G)) (hn : G.Nodup) (hF : ∀ g ∈ G, g ∉ F) (h0 : B0 ≤ t ∧ B0 ≤ pm ∧ B0 ≤ base ∧ base ≤ w.heap.size) :
    Calls Tryz.prog 9 #[.pointer (some ⟨t, 0, none⟩), .string s] w fun e w' => e = .returned (.int .i64 0) ∧ DpE w w' B0 t pm n base P K F N G := by
  have hb0 := below_alloc w (.cells #[.pointer (some ⟨t, 0, none⟩)] 24)
  have k2 := Blk.new w #[Value.pointer (some ⟨t, 0, none⟩)] 24
  have HM := hide (pmayChange_e _ _ 4 _ (h.ld.tr.later hb0).mayC)
  rw [show unN 4 = 0 by rfl] at HM
  have HF := hide (fun X (hb : Below w.heap.size w X) => find_any X t pm n (h.ld.tr.later hb) s hsz)
  have HK2 := hide k2
  have c2 := k2.cell 0
  have HB0 := hide hb0
  have hB0w : B0 ≤ w.heap.size := by omega
  have HI0 := hide (sizeK ⟨#[]⟩ 0 none 0 0)
  obtain ⟨f1, f2, f3, f4⟩ := found_facts hR
  have HT := hide h
  have HS := hide hs
  have HNd := hide (And.intro hn hF)
  rw [hR] at HF
  generalize rdSz s = z at *
  clear k2 h hs hR hn hF
  have HI1 := hide (fun p c => sizeK ⟨d.toArray⟩ (z : Int) p G.length c)
  by_cases hG0 : G.length = 0
  · have g0b : ((G.length : Int) == 0) = true := by simpa using hG0
    have hGn : Hid (G = []) := List.length_eq_zero_iff.1 hG0
    clear hG0
    go_enter Tryz.func9, Tryz.ntmps9
    go_wp2_with (first
      | (go_at_call 36; (with_reducible refine Calls.mono HM.out ?_); rintro e w4 ⟨rfl, hb⟩; have HB4 := hide (below_trans HB0.out hb); have c24 := cell_later hb c2; have HK4 := hide (HK2.out.later hb); clear hb)
      | (go_at_call 37; (with_reducible refine Calls.mono (HF.out _ HB4.out) ?_); rintro e w5 ⟨p, c, rfl, ho, hb⟩; have HB5 := hide (below_trans (below_trans HB4.out hb) (below_alloc w5 (.cells #[.string ⟨#[]⟩, .int .i64 0, .slice none 0 0] 79))); have HS5 := hide (below_trans HB4.out hb).size; have HK5 := hide (kp_new w5); have HO5 := hide (own_same ho (fun g cs fz hg _ => (below_alloc w5 (.cells #[.string ⟨#[]⟩, .int .i64 0, .slice none 0 0] 79)).block g (Array.getElem?_eq_some_iff.1 hg).1)); have HQ5 := hide ((HK4.out.later hb).later (below_alloc w5 (.cells #[.string ⟨#[]⟩, .int .i64 0, .slice none 0 0] 79))); clear hb ho)
      | ((with_reducible refine atSt 79 ?_); refine wp_storeB (c := kpA ⟨d.toArray⟩ (z : Int) p G.length c) (z := kpA ⟨#[]⟩ 0 none 0 0) (HI1.out p c) rfl (kp_one _ _ _ _ _) HK5.out _ _ (by rfl) (by rfl) (by rfl) (by rfl) ?_; intro W6 hb6 ho6; obtain ⟨k0, k1, k2⟩ := kp_cells hb6; have HB6 := hide (below_only1 HB5.out ho6 HS5.out); have HQ6 := hide (HQ5.out.only ho6 (by have := HK4.out.lt; have := HQ5.out.lt; intro hm; have e1 : w.heap.size = w5.heap.size := (by simpa using hm); exact blk_ne HQ5.out (e1 ▸ HK5.out) (by decide) rfl)); have c26 := HQ6.out.cell 0; clear hb6 ho6))
    go_ret
    refine ⟨rfl, ?_⟩
    rw [hGn.out]
    exact dpe_none HT.out HS.out HB6.out hB0w
  · have g0 : ¬ (G.length : Int) = 0 := by omega
    have g0b : ((G.length : Int) == 0) = false := by simpa using g0
    go_enter Tryz.func9, Tryz.ntmps9
    go_wp2_with (first
      | (go_at_call 36; (with_reducible refine Calls.mono HM.out ?_); rintro e w4 ⟨rfl, hb⟩; have HB4 := hide (below_trans HB0.out hb); have c24 := cell_later hb c2; have HK4 := hide (HK2.out.later hb); clear hb)
      | (go_at_call 37; (with_reducible refine Calls.mono (HF.out _ HB4.out) ?_); rintro e w5 ⟨p, c, rfl, ho, hb⟩; have HB5 := hide (below_trans (below_trans HB4.out hb) (below_alloc w5 (.cells #[.string ⟨#[]⟩, .int .i64 0, .slice none 0 0] 79))); have HS5 := hide (below_trans HB4.out hb).size; have HK5 := hide (kp_new w5); have HO5 := hide (own_same ho (fun g cs fz hg _ => (below_alloc w5 (.cells #[.string ⟨#[]⟩, .int .i64 0, .slice none 0 0] 79)).block g (Array.getElem?_eq_some_iff.1 hg).1)); have HQ5 := hide ((HK4.out.later hb).later (below_alloc w5 (.cells #[.string ⟨#[]⟩, .int .i64 0, .slice none 0 0] 79))); clear hb ho)
      | ((with_reducible refine atSt 79 ?_); refine wp_storeB (c := kpA ⟨d.toArray⟩ (z : Int) p G.length c) (z := kpA ⟨#[]⟩ 0 none 0 0) (HI1.out p c) rfl (kp_one _ _ _ _ _) HK5.out _ _ (by rfl) (by rfl) (by rfl) (by rfl) ?_; intro W6 hb6 ho6; obtain ⟨k0, k1, k2⟩ := kp_cells hb6; have HB6 := hide (below_only1 HB5.out ho6 HS5.out); have HO6 := hide (own_same HO5.out (fun g cs fz hg _ => ho6.block g (Array.getElem?_eq_some_iff.1 hg).1 (fun hm => by have e1 : g = w5.heap.size := (by simpa using hm); subst e1; rw [show _ = _ from HK5.out] at hg; injection hg with e2; injection e2 with _ e3; exact absurd e3 (by decide)))); have HQ6 := hide (HQ5.out.only ho6 (by have := HK4.out.lt; have := HQ5.out.lt; intro hm; have e1 : w.heap.size = w5.heap.size := (by simpa using hm); exact blk_ne HQ5.out (e1 ▸ HK5.out) (by decide) rfl)); have c26 := HQ6.out.cell 0; have HK6 := hide hb6; clear hb6 ho6))
    rcases HO6.out.2 with ⟨hv, hn⟩ | ⟨g, cap, cur, hv, hge, hgg, hcap, _, hcs, htk⟩
    · exact absurd hn hG0
    · injection hv with e1 e2 e3
      subst e1 e3
      have hcl : G.length ≤ cur.size := by rw [hcs]; omega
      have hgB : Blk W6 g cur 3 := hgg
      have HT6 := hide (HT.out.later HB6.out)
      have HS6 := hide (HS.out.later HB6.out)
      have htk' : cur.toList.take G.length = inL G := by rw [Nat.mul_one] at htk; exact htk
      with_reducible refine Calls.mono (rev_e W6 g c G cur hgB htk' f2 hcl) ?_
      rintro e w7 ⟨rfl, hI7, ho7⟩
      have hT7 := HT6.out.onlyX ho7 (fun b hb => by have e1 : b = g := (by simpa using hb); subst e1; exact ⟨_, _, hgB, by unfold Ot; decide⟩)
      have hS7 := sv_g HS6.out hgB ho7
      have q7 := HQ6.out.only ho7 (fun hm => by have e1 : w.heap.size = g := (by simpa using hm); subst e1; exact blk_ne HQ6.out hgB (by decide) rfl)
      have k7 := HK6.out.only ho7 (fun hm => by have e1 : w5.heap.size = g := (by simpa using hm); subst e1; exact blk_ne HK6.out hgB (by decide) rfl)
      have hw7 : Below w.heap.size w w7 := below_only1 HB6.out ho7 (Nat.le_trans HB4.out.size hge)
      obtain ⟨m0, m1, m2⟩ := kp_cells k7
      have c27 := q7.cell 0
      have HC7 := hide (show w7.drew.cell? ⟨w.heap.size, 0, none⟩ = some (.pointer (some ⟨t, 0, none⟩)) ∧ w7.drew.cell? ⟨w5.heap.size, 2, none⟩ = some (.slice (some ⟨g, 0, none⟩) G.length c) from ⟨c27, m2⟩)
      have HT7 := hide hT7
      have HS7 := hide hS7
      have HI7 := hide hI7
      have HQ7 := hide q7
      have HB7 := hide hw7
      clear hT7 hS7 q7 k7 hI7 ho7 hw7 m0 m1 m2 c27
      have hbx : Below w7.heap.size w7 (w7.alloc (.cells #[.slice (some ⟨g, 0, none⟩) G.length c] 27)).drew := below_dr (below_alloc _ _)
      have HWk := hide (walkD_e (w7.alloc (.cells #[.slice (some ⟨g, 0, none⟩) G.length c] 27)).drew B0 t pm n base (HT7.out.later hbx) (HS7.out.later hbx) w.heap.size w7.heap.size g c G.reverse (fun g hg => f1 g (List.mem_reverse.1 hg)) (List.pairwise_reverse.2 (HNd.out.1.imp Ne.symm)) (fun g hg => HNd.out.2 g (List.mem_reverse.1 hg)) (by rw [List.length_reverse]; exact f2) (by rw [List.length_reverse]; omega) (HQ7.out.later hbx) (by rw [List.length_reverse]; exact (Blk.new w7 _ _).drew) (let ⟨cur, c1, c2⟩ := HI7.out; ⟨cur, Blk.later c1 hbx, c2⟩) ⟨h0.1, h0.2.1, h0.2.2.1, Nat.le_trans h0.2.2.2 (Nat.le_trans HB7.out.size hbx.size)⟩)
      unfold dropF at HWk
      have HBx := hide (below_trans HB7.out hbx)
      clear hbx
      go_wp2_with fail
      have n1 := HC7.out.1
      have n2 := HC7.out.2
      have n3 := cell_later (below_alloc w7.drew (.cells #[.slice (some ⟨g, 0, none⟩) G.length c] 27)) HC7.out.1
      have n4 := cell_later (below_alloc w7.drew (.cells #[.slice (some ⟨g, 0, none⟩) G.length c] 27)) HC7.out.2
      have n5 : (w7.alloc (.cells #[.slice (some ⟨g, 0, none⟩) G.length c] 27)).cell? ⟨w.heap.size, 0, none⟩ = some (.pointer (some ⟨t, 0, none⟩)) := cell_later (below_alloc w7 _) HC7.out.1
      have n6 : (w7.alloc (.cells #[.slice (some ⟨g, 0, none⟩) G.length c] 27)).cell? ⟨w5.heap.size, 2, none⟩ = some (.slice (some ⟨g, 0, none⟩) G.length c) := cell_later (below_alloc w7 _) HC7.out.2
      have n7 : w7.cell? ⟨w.heap.size, 0, none⟩ = some (.pointer (some ⟨t, 0, none⟩)) := HC7.out.1
      have n8 : w7.cell? ⟨w5.heap.size, 2, none⟩ = some (.slice (some ⟨g, 0, none⟩) G.length c) := HC7.out.2
      go_region_with (first
        | (go_at_call 40; (with_reducible refine Calls.mono (values_e _ _ _ _) ?_); rintro e w8 ⟨rfl, rfl⟩)
        | (go_at_call 39; (with_reducible refine Calls.mono HWk.out ?_); rintro e w9 ⟨rfl, hk9⟩; have HK9 := hide hk9; clear hk9))
      all_goals go_wp2
      all_goals go_ret
      all_goals exact ⟨rfl, dpe_some HBx.out hB0w HK9.out⟩
end Go.Proofs.YthgclfhfipfknaaGreat
