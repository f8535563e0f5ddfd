/- Package spill: Drop, over any pages. -/
/- Package spill: Drop, over any pages. -/
import Derived.Test.YthgclfhfipfknaaGreatPNE
import Derived.Test.YthgclfhfipfknaaGreatPLG
namespace Go.Proofs.YthgclfhfipfknaaGreat
variable {sv : Value}
open Go.ChangeShapes Go.WideShapes Go.ChangeAt Go.RowKit Go.Maps Go.Shelf
set_option linter.unusedVariables false

theorem drewN_heap (w : World) (q : Nat) : (w.drewN q).heap = w.heap := rfl
theorem drewN_only (w : World) (q : Nat) (S : List Nat) : Only S w (w.drewN q) := ⟨rfl, rfl, rfl, Nat.le_refl _, fun _ _ _ => rfl⟩
theorem rev_e (w : World) (g cap : Nat) (G : List Nat) (cur : Array Value) (hb : Blk w g cur 3) (hc : cur.toList.take G.length = inL G) (hG : G.length ≤ 4000) (hl : G.length ≤ cur.size) :
    Calls Tryz.prog 38 #[.slice (some ⟨g, 0, none⟩) G.length cap] w fun e w' => e = .returned (.tuple #[]) ∧ IntB w' g G.reverse ∧ Only [g] w w' := by
  have hI : IntAt w g G := ⟨cur, hb, hc⟩
  have h := Any.slices_Reverse_int_cells Tryz.lays112 g 0 G.length cap (G.map fun (i : Nat) => (i : Int)) w (by simp) (by omega) (fun j hj => by
    rw [List.length_map] at hj
    rw [Nat.zero_add, hI.cell hj]
    simp [List.getD, hj]) (fun j hj => by rw [Nat.zero_add]; exact hb.frozen j)
  refine h.mono ?_
  rintro e w' ⟨rfl, q, rfl⟩
  have e1 : ((G.map fun (i : Nat) => (i : Int)).take G.length).reverse.map (Value.int .i64) = inL G.reverse := by
    rw [List.take_of_length_le (by simp), ← List.map_reverse, List.map_map]
    rfl
  rw [e1]
  have hb' : Blk (w.drewN q) g cur 3 := hb
  have hL : (inL G.reverse).length = G.length := by simp [inL]
  refine ⟨rfl, ⟨_, blk_cells (inL G.reverse) 0 (w.drewN q) cur hb' (by rw [hL]; omega), ?_⟩, (drewN_only w q _).trans (only_cells _ _ _ _)⟩
  have : G.reverse.length = (inL G.reverse).length := by rw [hL, List.length_reverse]
  rw [this]
  simp
theorem fnd_facts (P : Nat → List UInt8) (m : Nat) : ∀ (f n left : Nat) (d : List UInt8) (G : List Nat) {d' : List UInt8} {G' : List Nat}, fnd P m f n left d G = some (d', G') → ∃ H, G' = G ++ H ∧ (∀ k ∈ H, 2 ≤ k ∧ k ≤ m) ∧ H.length ≤ left ∧ d'.length = d.length + left
  | 0, n, left, d, G, d', G', h => by
    simp only [fnd] at h
    split at h
    · rename_i hc
      simp only [Option.some.injEq, Prod.mk.injEq] at h
      obtain ⟨rfl, rfl⟩ := h
      exact ⟨[], by simp, by simp, by simp, by omega⟩
    · cases h
  | f + 1, n, left, d, G, d', G', h => by
    by_cases hl : left = 0
    · subst hl
      rw [fnd_end] at h
      split at h
      · simp only [Option.some.injEq, Prod.mk.injEq] at h
        obtain ⟨rfl, rfl⟩ := h
        exact ⟨[], by simp, by simp, by simp, by omega⟩
      · cases h
    · by_cases hc : 2 ≤ n ∧ n ≤ m ∧ kindV (P n) = 5 ∧ cntV (P n) = cellsN left
      · cases he : eat (cellS (P n)) (List.range (cellsN left)) left d with
        | none => rw [fnd_eatN P m _ n left d G hl he] at h; cases h
        | some p =>
          obtain ⟨l, x⟩ := p
          rw [fnd, if_neg hl, if_pos hc, he] at h
          obtain ⟨e1, e2⟩ := eat_left _ _ _ _ he
          rw [List.length_range] at e1
          have hcp := cellsN_pos hl
          obtain ⟨H, rfl, h2, h3, h4⟩ := fnd_facts P m f (linkV (P n)) l x (G ++ [n]) h
          refine ⟨n :: H, by simp, fun k hk => ?_, by simp; omega, by omega⟩
          rcases List.mem_cons.1 hk with rfl | hk
          · exact ⟨hc.1, hc.2.1⟩
          · exact h2 k hk
      · rw [fnd_bad P m _ n left d G hl hc] at h; cases h
theorem found_facts {P : Nat → List UInt8} {m : Nat} {s : ByteArray} {d : List UInt8} {G : List Nat} (h : foundR P m s = some (d, G)) : (∀ k ∈ G, 2 ≤ k ∧ k ≤ m) ∧ G.length ≤ 4000 ∧ d.length ≤ 4000 ∧ rdSz s ≤ s.size := by
  unfold foundR at h
  split at h
  · rename_i hok
    obtain ⟨H, rfl, h2, h3, h4⟩ := fnd_facts P m _ _ _ _ _ h
    have hk := rdH_size s hok
    have hu := hok.2.1
    rw [bytes_size] at h4
    exact ⟨h2, by omega, by omega, hok.2.2⟩
  · cases h
end Go.Proofs.YthgclfhfipfknaaGreat

namespace Go.Proofs.YthgclfhfipfknaaGreat
variable {sv : Value}
open Go.ChangeShapes Go.WideShapes Go.ChangeAt Go.RowKit Go.Maps Go.Shelf
set_option linter.unusedVariables false

/-- What Drop comes to. -/
def DpW (w : World) (B0 : Nat) (R : Option (List UInt8 × List Nat)) (e : Ending) (w' : World) : Prop := ∃ E : Int, e = .returned (.int .i64 E) ∧ (E = 0 ∨ E = 2 ∨ E = 8) ∧ (R = none → E = 8) ∧ Below B0 w w'
theorem sv_g {w V : World} {base pm g : Nat} {c : Array Value} (h : Sv w base sv [] pm) (hg : Blk w g c 3) (ho : Only [g] w V) : Sv V base sv [] pm :=
  h.only ho (fun g' e hm => by
    have e1 : g' = g := by simpa using hm
    subst e1
    obtain ⟨_, c', hb⟩ := ownC_blk h.row e
    exact blk_ne hb hg (by decide) rfl) (fun s hs => by cases hs)
set_option maxRecDepth 100000 in
set_option maxHeartbeats 4000000 in
theorem drop_any (w : World) (B0 t pm n base : Nat) {P : Nat → List UInt8} {K : Nat} (h : Tr sv w t pm n P K true) (hs : Sv w base sv [] pm) (hK : K ≤ 80000) (s : ByteArray) (hsz : s.size ≤ 140737488355328) (h0 : B0 ≤ t ∧ B0 ≤ pm ∧ B0 ≤ base ∧ base ≤ w.heap.size) :
    Calls Tryz.prog 9 #[.pointer (some ⟨t, 0, none⟩), .string s] w fun e w' => DpW w B0 (foundR P n s) e w' := by
  have hb0 := below_alloc w (.cells #[.pointer (some ⟨t, 0, none⟩)] 24)
  have k2 := Blk.new w #[Value.pointer (some ⟨t, 0, none⟩)] 24
  have HM := hide (pmayChange_e _ _ 4 _ (h.later hb0).mayC)
  rw [show unN 4 = 0 by rfl] at HM
  have HF := hide (fun X (hb : Below w.heap.size w X) => find_any X t pm n (h.later hb) s hsz)
  have HK2 := hide k2
  have c2 := k2.cell 0
  have HB0 := hide hb0
  have hB0w : B0 ≤ w.heap.size := by omega
  have HI0 := hide (sizeK ⟨#[]⟩ 0 none 0 0)
  have HFf := hide (fun d G => found_facts (P := P) (m := n) (s := s) (d := d) (G := G))
  have HT := hide h
  have HS := hide hs
  generalize rdSz s = z at *
  generalize foundR P n s = R at *
  clear k2 h hs
  cases R with
  | none =>
    go_enter Tryz.func9, Tryz.ntmps9
    go_wp2_with (first
      | (go_at_call 36; (with_reducible refine Calls.mono HM.out ?_); rintro e w4 ⟨rfl, hb⟩; have HB4 := hide (below_trans HB0.out hb); have c24 := cell_later hb c2; clear hb)
      | (go_at_call 37; (with_reducible refine Calls.mono (HF.out _ HB4.out) ?_); rintro e w5 ⟨rfl, hb⟩; have HB5 := hide (below_trans (below_trans HB4.out hb) (below_alloc w5 (.cells #[.string ⟨#[]⟩, .int .i64 0, .slice none 0 0] 79))); have HS5 := hide (below_trans HB4.out hb).size; have HK5 := hide (kp_new w5); clear hb)
      | ((with_reducible refine atSt 79 ?_); refine wp_storeB (c := kpA ⟨#[]⟩ 0 none 0 0) (z := kpA ⟨#[]⟩ 0 none 0 0) HI0.out rfl (kp_one _ _ _ _ _) HK5.out _ _ (by rfl) (by rfl) (by rfl) (by rfl) ?_; intro W6 hb6 ho6; have HB6 := hide (below_only1 HB5.out ho6 HS5.out); clear hb6 ho6))
    go_ret
    exact ⟨8, rfl, .inr (.inr rfl), fun _ => rfl, HB6.out.mono hB0w⟩
  | some r =>
    obtain ⟨d, G⟩ := r
    obtain ⟨f1, f2, f3, f4⟩ := HFf.out d G rfl
    have HI1 := hide (fun p c => sizeK ⟨d.toArray⟩ (z : Int) p G.length c)
    by_cases hG0 : G.length = 0
    · have g0b : ((G.length : Int) == 0) = true := by simpa using hG0
      clear hG0
      go_enter Tryz.func9, Tryz.ntmps9
      go_wp2_with (first
        | (go_at_call 36; (with_reducible refine Calls.mono HM.out ?_); rintro e w4 ⟨rfl, hb⟩; have HB4 := hide (below_trans HB0.out hb); have c24 := cell_later hb c2; have HK4 := hide (HK2.out.later hb); clear hb)
        | (go_at_call 37; (with_reducible refine Calls.mono (HF.out _ HB4.out) ?_); rintro e w5 ⟨p, c, rfl, ho, hb⟩; have HB5 := hide (below_trans (below_trans HB4.out hb) (below_alloc w5 (.cells #[.string ⟨#[]⟩, .int .i64 0, .slice none 0 0] 79))); have HS5 := hide (below_trans HB4.out hb).size; have HK5 := hide (kp_new w5); have HO5 := hide (own_same ho (fun g cs fz hg _ => (below_alloc w5 (.cells #[.string ⟨#[]⟩, .int .i64 0, .slice none 0 0] 79)).block g (Array.getElem?_eq_some_iff.1 hg).1)); have HQ5 := hide ((HK4.out.later hb).later (below_alloc w5 (.cells #[.string ⟨#[]⟩, .int .i64 0, .slice none 0 0] 79))); clear hb ho)
        | ((with_reducible refine atSt 79 ?_); refine wp_storeB (c := kpA ⟨d.toArray⟩ (z : Int) p G.length c) (z := kpA ⟨#[]⟩ 0 none 0 0) (HI1.out p c) rfl (kp_one _ _ _ _ _) HK5.out _ _ (by rfl) (by rfl) (by rfl) (by rfl) ?_; intro W6 hb6 ho6; obtain ⟨k0, k1, k2⟩ := kp_cells hb6; have HB6 := hide (below_only1 HB5.out ho6 HS5.out); have HO6 := hide (own_same HO5.out (fun g cs fz hg _ => ho6.block g (Array.getElem?_eq_some_iff.1 hg).1 (fun hm => by have e1 : g = w5.heap.size := (by simpa using hm); subst e1; rw [show _ = _ from HK5.out] at hg; injection hg with e2; injection e2 with _ e3; exact absurd e3 (by decide)))); have HQ6 := hide (HQ5.out.only ho6 (by have := HK4.out.lt; have := HQ5.out.lt; intro hm; have e1 : w.heap.size = w5.heap.size := (by simpa using hm); exact blk_ne HQ5.out (e1 ▸ HK5.out) (by decide) rfl)); have c26 := HQ6.out.cell 0; have HK6 := hide hb6; clear hb6 ho6))
      go_ret
      exact ⟨0, rfl, .inl rfl, (fun hh => by cases hh), HB6.out.mono hB0w⟩
    · have g0 : ¬ (G.length : Int) = 0 := by omega
      have g0b : ((G.length : Int) == 0) = false := by simpa using g0
      go_enter Tryz.func9, Tryz.ntmps9
      go_wp2_with (first
        | (go_at_call 36; (with_reducible refine Calls.mono HM.out ?_); rintro e w4 ⟨rfl, hb⟩; have HB4 := hide (below_trans HB0.out hb); have c24 := cell_later hb c2; have HK4 := hide (HK2.out.later hb); clear hb)
        | (go_at_call 37; (with_reducible refine Calls.mono (HF.out _ HB4.out) ?_); rintro e w5 ⟨p, c, rfl, ho, hb⟩; have HB5 := hide (below_trans (below_trans HB4.out hb) (below_alloc w5 (.cells #[.string ⟨#[]⟩, .int .i64 0, .slice none 0 0] 79))); have HS5 := hide (below_trans HB4.out hb).size; have HK5 := hide (kp_new w5); have HO5 := hide (own_same ho (fun g cs fz hg _ => (below_alloc w5 (.cells #[.string ⟨#[]⟩, .int .i64 0, .slice none 0 0] 79)).block g (Array.getElem?_eq_some_iff.1 hg).1)); have HQ5 := hide ((HK4.out.later hb).later (below_alloc w5 (.cells #[.string ⟨#[]⟩, .int .i64 0, .slice none 0 0] 79))); clear hb ho)
        | ((with_reducible refine atSt 79 ?_); refine wp_storeB (c := kpA ⟨d.toArray⟩ (z : Int) p G.length c) (z := kpA ⟨#[]⟩ 0 none 0 0) (HI1.out p c) rfl (kp_one _ _ _ _ _) HK5.out _ _ (by rfl) (by rfl) (by rfl) (by rfl) ?_; intro W6 hb6 ho6; obtain ⟨k0, k1, k2⟩ := kp_cells hb6; have HB6 := hide (below_only1 HB5.out ho6 HS5.out); have HO6 := hide (own_same HO5.out (fun g cs fz hg _ => ho6.block g (Array.getElem?_eq_some_iff.1 hg).1 (fun hm => by have e1 : g = w5.heap.size := (by simpa using hm); subst e1; rw [show _ = _ from HK5.out] at hg; injection hg with e2; injection e2 with _ e3; exact absurd e3 (by decide)))); have HQ6 := hide (HQ5.out.only ho6 (by have := HK4.out.lt; have := HQ5.out.lt; intro hm; have e1 : w.heap.size = w5.heap.size := (by simpa using hm); exact blk_ne HQ5.out (e1 ▸ HK5.out) (by decide) rfl)); have c26 := HQ6.out.cell 0; have HK6 := hide hb6; clear hb6 ho6))
      have hn1 : 1 ≤ n := by
        obtain ⟨x, hx⟩ := List.exists_mem_of_length_pos (l := G) (by omega)
        have := f1 x hx; omega
      rcases HO6.out.2 with ⟨hv, hn⟩ | ⟨g, cap, cur, hv, hge, hgg, hcap, _, hcs, htk⟩
      · exact absurd hn hG0
      · injection hv with e1 e2 e3
        subst e1 e3
        have hcl : G.length ≤ cur.size := by rw [hcs]; omega
        have hgB : Blk W6 g cur 3 := hgg
        have HT6 := hide (HT.out.later HB6.out)
        have HS6 := hide (HS.out.later HB6.out)
        have htk' : cur.toList.take G.length = inL G := by rw [Nat.mul_one] at htk; exact htk
        with_reducible refine Calls.mono (rev_e W6 g c G cur hgB htk' f2 hcl) ?_
        rintro e w7 ⟨rfl, hI7, ho7⟩
        have hT7 := HT6.out.only ho7 (fun b hb => by have e1 : b = g := (by simpa using hb); subst e1; exact ⟨_, _, hgB, .inl rfl⟩)
        have hS7 := sv_g HS6.out hgB ho7
        have q7 := HQ6.out.only ho7 (fun hm => by have e1 : w.heap.size = g := (by simpa using hm); subst e1; exact blk_ne HQ6.out hgB (by decide) rfl)
        have k7 := HK6.out.only ho7 (fun hm => by have e1 : w5.heap.size = g := (by simpa using hm); subst e1; exact blk_ne HK6.out hgB (by decide) rfl)
        have hw7 : Below w.heap.size w w7 := below_only1 HB6.out ho7 (Nat.le_trans HB4.out.size hge)
        obtain ⟨m0, m1, m2⟩ := kp_cells k7
        have c27 := q7.cell 0
        have HC7 := hide (show w7.drew.cell? ⟨w.heap.size, 0, none⟩ = some (.pointer (some ⟨t, 0, none⟩)) ∧ w7.drew.cell? ⟨w5.heap.size, 2, none⟩ = some (.slice (some ⟨g, 0, none⟩) G.length c) from ⟨c27, m2⟩)
        have HT7 := hide hT7
        have HS7 := hide hS7
        have HI7 := hide hI7
        have HQ7 := hide q7
        have HB7 := hide hw7
        clear hT7 hS7 q7 k7 hI7 ho7 hw7 m0 m1 m2 c27
        have hbx : Below w7.heap.size w7 (w7.alloc (.cells #[.slice (some ⟨g, 0, none⟩) G.length c] 27)).drew := below_dr (below_alloc _ _)
        have HWk := hide (walkI_e (w7.alloc (.cells #[.slice (some ⟨g, 0, none⟩) G.length c] 27)).drew B0 t pm n base (HT7.out.later hbx) (HS7.out.later hbx) hn1 w.heap.size w7.heap.size g c G.reverse (by rw [List.length_reverse]; exact f2) (by rw [List.length_reverse]; omega) (HQ7.out.later hbx) (by rw [List.length_reverse]; exact (Blk.new w7 _ _).drew) (let ⟨cur, c1, c2⟩ := HI7.out; ⟨cur, Blk.later c1 hbx, c2⟩) ⟨h0.1, h0.2.1, h0.2.2.1, Nat.le_trans h0.2.2.2 (Nat.le_trans HB7.out.size hbx.size)⟩)
        unfold dropF at HWk
        have HBx := hide (below_trans HB7.out hbx)
        clear hbx
        go_wp2_with fail
        have n1 := HC7.out.1
        have n2 := HC7.out.2
        have n3 := cell_later (below_alloc w7.drew (.cells #[.slice (some ⟨g, 0, none⟩) G.length c] 27)) HC7.out.1
        have n4 := cell_later (below_alloc w7.drew (.cells #[.slice (some ⟨g, 0, none⟩) G.length c] 27)) HC7.out.2
        have n5 : (w7.alloc (.cells #[.slice (some ⟨g, 0, none⟩) G.length c] 27)).cell? ⟨w.heap.size, 0, none⟩ = some (.pointer (some ⟨t, 0, none⟩)) := cell_later (below_alloc w7 _) HC7.out.1
        have n6 : (w7.alloc (.cells #[.slice (some ⟨g, 0, none⟩) G.length c] 27)).cell? ⟨w5.heap.size, 2, none⟩ = some (.slice (some ⟨g, 0, none⟩) G.length c) := cell_later (below_alloc w7 _) HC7.out.2
        have n7 : w7.cell? ⟨w.heap.size, 0, none⟩ = some (.pointer (some ⟨t, 0, none⟩)) := HC7.out.1
        have n8 : w7.cell? ⟨w5.heap.size, 2, none⟩ = some (.slice (some ⟨g, 0, none⟩) G.length c) := HC7.out.2
        go_region_with (first
          | (go_at_call 40; (with_reducible refine Calls.mono (values_e _ _ _ _) ?_); rintro e w8 ⟨rfl, rfl⟩)
          | (go_at_call 39; (with_reducible refine Calls.mono HWk.out ?_); rintro e w9 ⟨E, rfl, hE, hb9⟩; have HE := hide hE; have HB9 := hide ((HBx.out.mono hB0w).trans hb9); clear hE hb9))
        all_goals go_wp2
        all_goals go_ret
        all_goals exact ⟨E, rfl, HE.out, (fun hh => by cases hh), HB9.out⟩
end Go.Proofs.YthgclfhfipfknaaGreat
