/- A page of a transaction. -/
/- A page of a transaction: Page, in every case. -/
import Derived.Test.YthgclfhfipfknaaGreatGD
import Derived.Test.YthgclfhfipfknaaGreatGF
namespace Go.Proofs.YthgclfhfipfknaaGreat
variable {sv : Value}
open Go.ChangeShapes Go.WideShapes Go.ChangeAt Go.RowKit Go.Maps
set_option linter.unusedVariables false

theorem PAt.only {w w' : World} {b : Nat} {l : List UInt8} {S : List Nat} (h : PAt w b l) (ho : Only S w w') (hn : b ∉ S) : PAt w' b l := ho.blk h hn
theorem blk_cells {g : Nat} {t : TypeId} : ∀ (vs : List Value) (o : Nat) (w : World) (c : Array Value), Blk w g c t → o + vs.length ≤ c.size → Blk (w.setCells g o vs) g (c.toList.take o ++ vs ++ c.toList.drop (o + vs.length)).toArray t
  | [], o, w, c, h, _ => by simpa [World.setCells] using h
  | v :: r, o, w, c, h, hs => by
    simp only [List.length_cons] at hs
    have := blk_cells r (o + 1) (w.setCell ⟨g, o, none⟩ v) _ (h.set o v) (by simp; omega)
    show Blk ((w.setCell ⟨g, o, none⟩ v).setCells g (o + 1) r) g _ t
    rw [show (c.toList.take o ++ v :: r ++ c.toList.drop (o + (v :: r).length)) = ((c.setIfInBounds o v).toList.take (o + 1) ++ r ++ (c.setIfInBounds o v).toList.drop (o + 1 + r.length)) from ?_]
    · exact this
    · rw [Array.toList_setIfInBounds, List.take_set, List.drop_set, if_pos (by omega), List.take_add_one, List.set_append_right _ _ (by simp; omega)]
      have hlen : o < c.toList.length := by simp; omega
      rw [List.getElem?_eq_getElem hlen, List.length_take, Nat.min_eq_left (by omega), Nat.sub_self]
      simp [Nat.add_assoc, Nat.add_comm 1 r.length]
theorem PAt.cells {w : World} {g : Nat} {l l0 : List UInt8} (h : PAt w g l0) (h0 : l0.length = 256) (hl : l.length = 256) : PAt (w.setCells g 0 (bcl l)) g l := by
  have := blk_cells (bcl l) 0 w (bc l0) h (by rw [bc_size, h0]; simp [bcl, hl])
  rw [List.take_zero, List.nil_append, List.drop_of_length_le (by simp [bc, bcl, h0, hl]), List.append_nil] at this
  exact this
theorem only_cells (b : Nat) : ∀ (vs : List Value) (o : Nat) (w : World), Only [b] w (w.setCells b o vs)
  | [], o, w => Only.refl _ _
  | v :: r, o, w => (Only.setCell w ⟨b, o, none⟩ v).trans (only_cells b r (o + 1) _)
theorem bcl_one (l : List UInt8) : ∀ v ∈ bcl l, v.oneCell' = true := by
  intro v hv
  simp only [bcl, List.mem_map] at hv
  obtain ⟨b, _, rfl⟩ := hv
  rfl
theorem PAt.there {w : World} {g : Nat} {l0 l : List UInt8} (h : PAt w g l0) (h0 : l0.length = 256) (hl : l.length = 256) : w.there g 0 (bcl l).length := fun j hj => by
  have hj2 : j < 256 := by simpa [bcl, hl] using hj
  rw [Nat.zero_add]
  exact ⟨by rw [h.cell (by omega)]; rfl, h.frozen j⟩
set_option maxRecDepth 20000 in
set_option maxHeartbeats 2000000 in
theorem page1_in (w : World) (A B t pm n : Nat) {P : Nat → List UInt8} {K : Nat} {wr : Bool} (h : Tr sv w t pm n P K wr) (k : Nat) (h1 : 1 ≤ k) (h2 : k ≤ n) (hA : w.cell? ⟨A, 0, none⟩ = some (.int .i64 (k : Int))) (hB : w.cell? ⟨B, 0, none⟩ = some (.pointer (some ⟨t, 0, none⟩))) :
    Calls Tryz.prog 186 #[.pointer (some ⟨A, 0, none⟩), .pointer (some ⟨B, 0, none⟩)] w fun e w' => e = .returned (.tuple #[.agg (bc (P k)), .int .i64 0]) ∧ Below w.heap.size w w' := by
  have l1 : ¬ (k : Int) < 1 := by omega
  have l2 : ¬ (n : Int) < (k : Int) := by omega
  have HB0 := hide (below_alloc w (.cells (bc zs) 59))
  have HZ := hide (PAt.new w zs)
  have HL := hide (h.len k)
  have few := h.few
  have HC : Hid (∀ V, Below w.heap.size w V → V.cell? ⟨A, 0, none⟩ = some (.int .i64 (k : Int)) ∧ V.cell? ⟨B, 0, none⟩ = some (.pointer (some ⟨t, 0, none⟩)) ∧ V.cell? ⟨t, 3, none⟩ = some (.int .i64 (n : Int)) ∧ V.cell? ⟨t, 4, none⟩ = some (.map (some pm))) := fun V hb => ⟨cell_later hb hA, cell_later hb hB, (h.later hb).c3, (h.later hb).c4⟩
  have HLk : Hid (∀ V, Below w.heap.size w V → (Instr.lookup 115 (.map (some pm)) (.int .i64 (k : Int)) true).run Tryz.prog V = .ok (.tuple #[.agg (bc (P k)), .bool true]) V) := fun V hb => look_page (h.mp.later hb) h1 h2 (by omega)
  clear h hA hB few h1 h2
  have hz := zeroP
  go_enter Tryz.func186, Tryz.ntmps186
  go_upto_region 1 with fail
  go_name_world W0 hW0
  rw [hW0] at HB0 HZ
  have HB0d : Hid (Below w.heap.size w W0.drew) := below_trans HB0.out (below_drew _)
  go_region_held3 (fun V => V.cell? ⟨A, 0, none⟩ = some (.int .i64 (k : Int)) ∧ V.cell? ⟨B, 0, none⟩ = some (.pointer (some ⟨t, 0, none⟩)) ∧ V.cell? ⟨t, 3, none⟩ = some (.int .i64 (n : Int)) ∧ V.cell? ⟨t, 4, none⟩ = some (.map (some pm))) (exact HC.out _ HB0d.out) (fail)
  go_upto_region 3 with fail
  have HB0e : Hid (Below w.heap.size w W0.drew.drew) := below_trans HB0d.out (below_drew _)
  have HN : Hid (PAt (W0.alloc (.cells (bc zs) 59)).drew.drew W0.heap.size zs) := PAt.new W0 zs
  have HB1 : Hid (Below w.heap.size w (W0.alloc (.cells (bc zs) 59)).drew.drew) := below_trans HB0.out (below_trans (below_alloc W0 _) (below_trans (below_drew _) (below_drew _)))
  have HZ1 : Hid (PAt (W0.alloc (.cells (bc zs) 59)).drew.drew w.heap.size zs) := (HZ.out.later (below_alloc W0 _) : PAt (W0.alloc (.cells (bc zs) 59)) w.heap.size zs)
  have hlk := HLk.out _ HB0e.out
  have hlk2 := HLk.out _ HB1.out
  have HLt : Hid (w.heap.size < W0.heap.size) := (Array.getElem?_eq_some_iff.1 HZ.out).1
  have hone := bcl_one (P k)
  have hth := HN.out.there zs_length HL.out
  have hsz : (Tryz.prog.info? 59).map (·.size) = some (bcl (P k)).length := by rw [page_info]; simp [bcl, HL.out]
  have HB2 : Hid (Below w.heap.size w ((W0.alloc (.cells (bc zs) 59)).drew.drew.setCells W0.heap.size 0 (bcl (P k)))) := below_only1 HB1.out (only_cells _ _ _ _) (by have := HLt.out; omega)
  have HP2 := hide (HN.out.cells zs_length HL.out)
  have HZ2 := hide (HZ1.out.only (only_cells W0.heap.size (bcl (P k)) 0 _) (by have := HLt.out; simp; omega))
  go_region_held3 (fun V => V.cell? ⟨A, 0, none⟩ = some (.int .i64 (k : Int)) ∧ V.cell? ⟨B, 0, none⟩ = some (.pointer (some ⟨t, 0, none⟩)) ∧ V.cell? ⟨t, 3, none⟩ = some (.int .i64 (n : Int)) ∧ V.cell? ⟨t, 4, none⟩ = some (.map (some pm))) (first | exact HC.out _ HB0e.out | exact HC.out _ HB1.out | exact HC.out _ HB2.out) (fail)
  all_goals first | exact hsz | skip
  all_goals
    clear hlk hlk2 hone hth hsz
    generalize (W0.alloc (.cells (bc zs) 59)).drew.drew.setCells W0.heap.size 0 (bcl (P k)) = W2 at HB2 HP2 HZ2 ⊢
    go_wp2_with (first
      | ((with_reducible refine atLd 59 ?_); refine wp_loadP HL.out HP2.out _ (by rfl) (by rfl) (by rfl) ?_)
      | ((with_reducible refine atSt 59 ?_); refine wp_storeP HL.out zs_length HZ2.out _ _ (by rfl) (by rfl) (by rfl) (by rfl) ?_; intro W3 hp hb hk; have HP3 := hide hp; have HB3 := hide (hb _ _ HB2.out (by omega)); clear hp hb hk)
      | (exact ret_page2 Tryz.results186 rfl rfl HL.out HP3.out ⟨rfl, HB3.out⟩))
end Go.Proofs.YthgclfhfipfknaaGreat

namespace Go.Proofs.YthgclfhfipfknaaGreat
variable {sv : Value}
open Go.ChangeShapes Go.WideShapes Go.ChangeAt Go.RowKit Go.Maps
set_option linter.unusedVariables false

set_option maxRecDepth 20000 in
set_option maxHeartbeats 2000000 in
theorem page1_out (w : World) (A B t pm n : Nat) {P : Nat → List UInt8} {K : Nat} {wr : Bool} (h : Tr sv w t pm n P K wr) (k : Int) (h1 : k < 1 ∨ (n : Int) < k) (hA : w.cell? ⟨A, 0, none⟩ = some (.int .i64 k)) (hB : w.cell? ⟨B, 0, none⟩ = some (.pointer (some ⟨t, 0, none⟩))) :
    Calls Tryz.prog 186 #[.pointer (some ⟨A, 0, none⟩), .pointer (some ⟨B, 0, none⟩)] w fun e w' => e = .returned (.tuple #[.agg (bc zs), .int .i64 4]) ∧ Below w.heap.size w w' := by
  have HB0 := hide (below_alloc w (.cells (bc zs) 59))
  have HZ := hide (PAt.new w zs)
  have HC : Hid (∀ V, Below w.heap.size w V → V.cell? ⟨A, 0, none⟩ = some (.int .i64 k) ∧ V.cell? ⟨B, 0, none⟩ = some (.pointer (some ⟨t, 0, none⟩)) ∧ V.cell? ⟨t, 3, none⟩ = some (.int .i64 (n : Int)) ∧ V.cell? ⟨t, 4, none⟩ = some (.map (some pm))) := fun V hb => ⟨cell_later hb hA, cell_later hb hB, (h.later hb).c3, (h.later hb).c4⟩
  clear h hA hB
  have hz := zeroP
  have hbu := built_page
  by_cases l1 : k < 1
  · clear h1
    obtain ⟨cA, cB, c3, c4⟩ := HC.out _ HB0.out
    go_enter Tryz.func186, Tryz.ntmps186
    go_upto_region 1 with fail
    go_name_world W0 hW0
    rw [hW0] at HB0 HZ cA cB c3 c4
    have HB0d : Hid (Below w.heap.size w W0.drew) := below_trans HB0.out (below_drew _)
    have HZd : Hid (PAt W0.drew w.heap.size zs) := HZ.out
    go_region
    all_goals
      go_wp2_with (first
        | ((with_reducible refine atSt 59 ?_); refine wp_storeP zs_length zs_length HZd.out _ _ (by rfl) (by rfl) (by rfl) (by rfl) ?_; intro W3 hp hb hk; have HP3 := hide hp; have HB3 := hide (hb _ _ HB0d.out (by omega)); clear hp hb hk)
        | (exact ret_page2 Tryz.results186 rfl rfl zs_length HP3.out ⟨rfl, HB3.out⟩))
  · have l2 : (n : Int) < k := by omega
    clear h1
    go_enter Tryz.func186, Tryz.ntmps186
    go_upto_region 1 with fail
    go_name_world W0 hW0
    rw [hW0] at HB0 HZ
    have HB0d : Hid (Below w.heap.size w W0.drew) := below_trans HB0.out (below_drew _)
    have HZd : Hid (PAt W0.drew w.heap.size zs) := HZ.out
    go_region_held3 (fun V => V.cell? ⟨A, 0, none⟩ = some (.int .i64 k) ∧ V.cell? ⟨B, 0, none⟩ = some (.pointer (some ⟨t, 0, none⟩)) ∧ V.cell? ⟨t, 3, none⟩ = some (.int .i64 (n : Int)) ∧ V.cell? ⟨t, 4, none⟩ = some (.map (some pm))) (exact HC.out _ HB0d.out) (fail)
    all_goals
      go_wp2_with (first
        | ((with_reducible refine atSt 59 ?_); refine wp_storeP zs_length zs_length HZd.out _ _ (by rfl) (by rfl) (by rfl) (by rfl) ?_; intro W3 hp hb hk; have HP3 := hide hp; have HB3 := hide (hb _ _ HB0d.out (by omega)); clear hp hb hk)
        | (exact ret_page2 Tryz.results186 rfl rfl zs_length HP3.out ⟨rfl, HB3.out⟩))
/-- What Page answers: the page and the error. -/
inductive PgK (w : World) : Option Addr → Int → List UInt8 → Int → Prop where
  | stop {v : Option Addr} {k e : Int} (h : GoK w v e) (he : e ≠ 0) : PgK w v k zs e
  | out {sv : Value} {t pm n : Nat} {P : Nat → List UInt8} {K : Nat} {wr : Bool} {k : Int} (h : Tr sv w t pm n P K wr) (hk : k < 1 ∨ (n : Int) < k) : PgK w (some ⟨t, 0, none⟩) k zs 4
  | inn {sv : Value} {t pm n : Nat} {P : Nat → List UInt8} {K : Nat} {wr : Bool} {k : Nat} (h : Tr sv w t pm n P K wr) (h1 : 1 ≤ k) (h2 : k ≤ n) : PgK w (some ⟨t, 0, none⟩) (k : Int) (P k) 0
theorem PgK.later {w w' : World} {v : Option Addr} {k : Int} {l : List UInt8} {e : Int} (h : PgK w v k l e) (hb : Below w.heap.size w w') : PgK w' v k l e := by
  cases h with
  | stop h he => exact .stop (h.later hb) he
  | out h hk => exact .out (h.later hb) hk
  | inn h h1 h2 => exact .inn (h.later hb) h1 h2
theorem PgK.len {w : World} {v : Option Addr} {k : Int} {l : List UInt8} {e : Int} (h : PgK w v k l e) : l.length = 256 := by
  cases h with
  | stop h he => exact zs_length
  | out h hk => exact zs_length
  | inn h h1 h2 => exact h.len _
set_option maxRecDepth 20000 in
set_option maxHeartbeats 2000000 in
theorem tellP_e (w : World) (A B : Nat) (v : Option Addr) (k : Int) (l : List UInt8) (E : Int) (h : PgK w v k l E) (hA : w.cell? ⟨A, 0, none⟩ = some (.int .i64 k)) (hB : w.cell? ⟨B, 0, none⟩ = some (.pointer v)) :
    Calls Tryz.prog 185 #[.func (.func 54) #[.pointer v] #[], .func (.func 186) #[] #[.pointer (some ⟨A, 0, none⟩), .pointer (some ⟨B, 0, none⟩)]] w fun e w' => e = .returned (.tuple #[.agg (bc l), .int .i64 E]) ∧ Below w.heap.size w w' := by
  have HB0 := hide (below_alloc w (.cells (bc zs) 59))
  have HZ := hide (PAt.new w zs)
  have hz := zeroP
  have HL := hide h.len
  have hlater := h.later HB0.out
  by_cases hs : GoK w v E ∧ E ≠ 0
  · have hl0 : l = zs := by
      cases h with
      | stop h he => rfl
      | out h hk => rfl
      | inn h h1 h2 => exact absurd rfl hs.2
    subst hl0
    have HG := hide (goesOn_e _ v E (hs.1.later HB0.out))
    have he2 : (E == 0) = false := by simpa using hs.2
    clear h hlater hs
    go_enter Tryz.func185, Tryz.ntmps185
    go_wp2_with (first
      | (go_at_call 54; (with_reducible refine Calls.mono HG.out ?_); rintro e w4 ⟨rfl, hb⟩; have HB4 := hide (below_trans HB0.out hb); have HZ4 := hide (HZ.out.later hb); have HN4 := hide (PAt.new w4 zs); have HZ5 := hide (HZ4.out.later (below_alloc w4 (.cells (bc zs) 59))); have HB5 := hide (below_trans HB4.out (below_alloc w4 (.cells (bc zs) 59))); clear hb)
      | ((with_reducible refine atLd 59 ?_); refine wp_loadP zs_length HN4.out _ (by rfl) (by rfl) (by rfl) ?_)
      | ((with_reducible refine atSt 59 ?_); refine wp_storeP zs_length zs_length HZ5.out _ _ (by rfl) (by rfl) (by rfl) (by rfl) ?_; intro W3 hp hb hk; have HP3 := hide hp; have HB3 := hide (hb _ _ HB5.out (by omega)); clear hp hb hk)
      | (exact ret_page2 Tryz.results185 rfl rfl zs_length HP3.out ⟨rfl, HB3.out⟩))
  · have HG : Hid (Calls Tryz.prog 54 #[.pointer v] (w.alloc (.cells (bc zs) 59)) fun e w' => e = .returned (.int .i64 0) ∧ Below (w.alloc (.cells (bc zs) 59)).heap.size (w.alloc (.cells (bc zs) 59)) w') := by
      cases h with
      | stop h he => exact absurd ⟨h, he⟩ hs
      | out h hk => exact goesOn_e _ _ 0 (h.later HB0.out).goK
      | inn h h1 h2 => exact goesOn_e _ _ 0 (h.later HB0.out).goK
    have HM : Hid (∀ V, Below w.heap.size w V → Calls Tryz.prog 186 #[.pointer (some ⟨A, 0, none⟩), .pointer (some ⟨B, 0, none⟩)] V fun e w' => e = .returned (.tuple #[.agg (bc l), .int .i64 E]) ∧ Below V.heap.size V w') := fun V hb => by
      cases h with
      | stop h he => exact absurd ⟨h, he⟩ hs
      | out h hk => exact page1_out V A B _ _ _ (h.later hb) _ hk (cell_later hb hA) (cell_later hb hB)
      | inn h h1 h2 => exact page1_in V A B _ _ _ (h.later hb) _ h1 h2 (cell_later hb hA) (cell_later hb hB)
    clear h hlater hs hA hB
    go_enter Tryz.func185, Tryz.ntmps185
    go_wp2_with (first
      | (go_at_call 54; (with_reducible refine Calls.mono HG.out ?_); rintro e w4 ⟨rfl, hb⟩; have HB4 := hide (below_trans HB0.out hb); have HZ4 := hide (HZ.out.later hb); clear hb)
      | (go_at_call 186; (with_reducible refine Calls.mono (HM.out _ HB4.out) ?_); rintro e w5 ⟨rfl, hb⟩; have HB5 := hide (below_trans HB4.out hb); have HZ5 := hide (HZ4.out.later hb); clear hb)
      | ((with_reducible refine atSt 59 ?_); refine wp_storeP HL.out zs_length HZ5.out _ _ (by rfl) (by rfl) (by rfl) (by rfl) ?_; intro W3 hp hb hk; have HP3 := hide hp; have HB3 := hide (hb _ _ HB5.out (by omega)); clear hp hb hk)
      | (exact ret_page2 Tryz.results185 rfl rfl HL.out HP3.out ⟨rfl, HB3.out⟩))
set_option maxRecDepth 20000 in
set_option maxHeartbeats 2000000 in
theorem page_e (w : World) (v : Option Addr) (k : Int) (l : List UInt8) (E : Int) (h : PgK w v k l E) :
    Calls Tryz.prog 102 #[.pointer v, .int .i64 k] w fun e w' => e = .returned (.tuple #[.agg (bc l), .int .i64 E]) ∧ Below w.heap.size w w' := by
  obtain ⟨W0, hW0⟩ : ∃ W0, W0 = ((w.alloc (.cells #[.pointer v] 24)).alloc (.cells #[.int .i64 k] 3)).alloc (.cells (bc zs) 59) := ⟨_, rfl⟩
  have HB0 : Hid (Below w.heap.size w W0) := by rw [hW0]; exact below_trans (below_trans (below_alloc _ _) (below_alloc _ _)) (below_alloc _ _)
  have hs1 : (w.alloc (.cells #[.pointer v] 24)).heap.size = w.heap.size + 1 := by simp
  have hs2 : ((w.alloc (.cells #[.pointer v] 24)).alloc (.cells #[.int .i64 k] 3)).heap.size = w.heap.size + 1 + 1 := by simp
  have HZ : Hid (PAt W0 (w.heap.size + 1 + 1) zs) := by rw [hW0, ← hs2]; exact PAt.new _ _
  have cB : W0.cell? ⟨w.heap.size, 0, none⟩ = some (.pointer v) := by rw [hW0]; exact (((Blk.new w #[.pointer v] 24).later (below_alloc _ _)).later (below_alloc _ _)).cell 0
  have cA : W0.cell? ⟨w.heap.size + 1, 0, none⟩ = some (.int .i64 k) := by rw [hW0, ← hs1]; exact ((Blk.new _ #[.int .i64 k] 3).later (below_alloc _ _)).cell 0
  have hz := zeroP
  have HL := hide h.len
  have HT := hide (tellP_e W0 (w.heap.size + 1) w.heap.size v k l E (h.later HB0.out) cA cB)
  clear h hs1 hs2 cA
  subst hW0
  go_enter Tryz.func102, Tryz.ntmps102
  go_wp2_with (first
    | (go_at_call 185; (with_reducible refine Calls.mono HT.out ?_); rintro e w5 ⟨rfl, hb⟩; have HB5 := hide (below_trans HB0.out hb); have HZ5 := hide (HZ.out.later hb); clear hb)
    | ((with_reducible refine atSt 59 ?_); refine wp_storeP HL.out zs_length HZ5.out _ _ (by rfl) (by rfl) (by rfl) (by rfl) ?_; intro W3 hp hb hk; have HP3 := hide hp; have HB3 := hide (hb _ _ HB5.out (by omega)); clear hp hb hk)
    | (exact ret_page2 Tryz.results102 rfl rfl HL.out HP3.out ⟨rfl, HB3.out⟩))
end Go.Proofs.YthgclfhfipfknaaGreat
