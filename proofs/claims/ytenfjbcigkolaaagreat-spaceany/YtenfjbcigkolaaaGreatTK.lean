/- A page of a transaction: Page, in every case. -/
import Derived.Test.YtenfjbcigkolaaaGreatTJ
namespace Go.Proofs.YtenfjbcigkolaaaGreat
open Go.ChangeShapes Go.WideShapes Go.ChangeAt Go.RowKit Go.Maps
set_option linter.unusedVariables false

set_option maxRecDepth 20000 in
set_option maxHeartbeats 2000000 in
theorem page1_out (w : World) (A B t pm n : Nat) {P : Nat → List UInt8} {K : Nat} {wr : Bool} (h : Tr w t pm n P K wr) (k : Int) (h1 : k < 1 ∨ (n : Int) < k) (hA : w.cell? ⟨A, 0, none⟩ = some (.int .i64 k)) (hB : w.cell? ⟨B, 0, none⟩ = some (.pointer (some ⟨t, 0, none⟩))) :
    Calls Tryz.prog 66 #[.pointer (some ⟨A, 0, none⟩), .pointer (some ⟨B, 0, none⟩)] w fun e w' => e = .returned (.tuple #[.agg (bc zs), .int .i64 4]) ∧ Below w.heap.size w w' := by
  have HB0 := hide (below_alloc w (.cells (bc zs) 32))
  have HZ := hide (PAt.new w zs)
  have HC : Hid (∀ V, Below w.heap.size w V → V.cell? ⟨A, 0, none⟩ = some (.int .i64 k) ∧ V.cell? ⟨B, 0, none⟩ = some (.pointer (some ⟨t, 0, none⟩)) ∧ V.cell? ⟨t, 3, none⟩ = some (.int .i64 (n : Int)) ∧ V.cell? ⟨t, 4, none⟩ = some (.map (some pm))) := fun V hb => ⟨cell_later hb hA, cell_later hb hB, (h.later hb).c3, (h.later hb).c4⟩
  clear h hA hB
  have hz := zeroP
  have hbu := built_page
  by_cases l1 : k < 1
  · clear h1
    obtain ⟨cA, cB, c3, c4⟩ := HC.out _ HB0.out
    go_enter Tryz.func66, Tryz.ntmps66
    go_upto_region 1 with fail
    go_name_world W0 hW0
    rw [hW0] at HB0 HZ cA cB c3 c4
    have HB0d : Hid (Below w.heap.size w W0.drew) := below_trans HB0.out (below_drew _)
    have HZd : Hid (PAt W0.drew w.heap.size zs) := HZ.out
    go_region
    all_goals
      go_wp2_with (first
        | ((with_reducible refine atSt 32 ?_); refine wp_storeP zs_length zs_length HZd.out _ _ (by rfl) (by rfl) (by rfl) (by rfl) ?_; intro W3 hp hb hk; have HP3 := hide hp; have HB3 := hide (hb _ _ HB0d.out (by omega)); clear hp hb hk)
        | (exact ret_page2 Tryz.results66 rfl rfl zs_length HP3.out ⟨rfl, HB3.out⟩))
  · have l2 : (n : Int) < k := by omega
    clear h1
    go_enter Tryz.func66, Tryz.ntmps66
    go_upto_region 1 with fail
    go_name_world W0 hW0
    rw [hW0] at HB0 HZ
    have HB0d : Hid (Below w.heap.size w W0.drew) := below_trans HB0.out (below_drew _)
    have HZd : Hid (PAt W0.drew w.heap.size zs) := HZ.out
    go_region_held3 (fun V => V.cell? ⟨A, 0, none⟩ = some (.int .i64 k) ∧ V.cell? ⟨B, 0, none⟩ = some (.pointer (some ⟨t, 0, none⟩)) ∧ V.cell? ⟨t, 3, none⟩ = some (.int .i64 (n : Int)) ∧ V.cell? ⟨t, 4, none⟩ = some (.map (some pm))) (exact HC.out _ HB0d.out) (fail)
    all_goals
      go_wp2_with (first
        | ((with_reducible refine atSt 32 ?_); refine wp_storeP zs_length zs_length HZd.out _ _ (by rfl) (by rfl) (by rfl) (by rfl) ?_; intro W3 hp hb hk; have HP3 := hide hp; have HB3 := hide (hb _ _ HB0d.out (by omega)); clear hp hb hk)
        | (exact ret_page2 Tryz.results66 rfl rfl zs_length HP3.out ⟨rfl, HB3.out⟩))
/-- What Page answers: the page and the error. -/
inductive PgK (w : World) : Option Addr → Int → List UInt8 → Int → Prop where
  | stop {v : Option Addr} {k e : Int} (h : GoK w v e) (he : e ≠ 0) : PgK w v k zs e
  | out {t pm n : Nat} {P : Nat → List UInt8} {K : Nat} {wr : Bool} {k : Int} (h : Tr w t pm n P K wr) (hk : k < 1 ∨ (n : Int) < k) : PgK w (some ⟨t, 0, none⟩) k zs 4
  | inn {t pm n : Nat} {P : Nat → List UInt8} {K : Nat} {wr : Bool} {k : Nat} (h : Tr w t pm n P K wr) (h1 : 1 ≤ k) (h2 : k ≤ n) : PgK w (some ⟨t, 0, none⟩) (k : Int) (P k) 0
theorem PgK.later {w w' : World} {v : Option Addr} {k : Int} {l : List UInt8} {e : Int} (h : PgK w v k l e) (hb : Below w.heap.size w w') : PgK w' v k l e := by
  cases h with
  | stop h he => exact .stop (h.later hb) he
  | out h hk => exact .out (h.later hb) hk
  | inn h h1 h2 => exact .inn (h.later hb) h1 h2
theorem PgK.len {w : World} {v : Option Addr} {k : Int} {l : List UInt8} {e : Int} (h : PgK w v k l e) : l.length = 256 := by
  cases h with
  | stop h he => exact zs_length
  | out h hk => exact zs_length
  | inn h h1 h2 => exact h.len _
set_option maxRecDepth 20000 in
set_option maxHeartbeats 2000000 in
theorem tellP_e (w : World) (A B : Nat) (v : Option Addr) (k : Int) (l : List UInt8) (E : Int) (h : PgK w v k l E) (hA : w.cell? ⟨A, 0, none⟩ = some (.int .i64 k)) (hB : w.cell? ⟨B, 0, none⟩ = some (.pointer v)) :
    Calls Tryz.prog 64 #[.func (.func 65) #[.pointer v] #[], .func (.func 66) #[] #[.pointer (some ⟨A, 0, none⟩), .pointer (some ⟨B, 0, none⟩)]] w fun e w' => e = .returned (.tuple #[.agg (bc l), .int .i64 E]) ∧ Below w.heap.size w w' := by
  have HB0 := hide (below_alloc w (.cells (bc zs) 32))
  have HZ := hide (PAt.new w zs)
  have hz := zeroP
  have HL := hide h.len
  have hlater := h.later HB0.out
  by_cases hs : GoK w v E ∧ E ≠ 0
  · have hl0 : l = zs := by
      cases h with
      | stop h he => rfl
      | out h hk => rfl
      | inn h h1 h2 => exact absurd rfl hs.2
    subst hl0
    have HG := hide (goesOn_e _ v E (hs.1.later HB0.out))
    have he2 : (E == 0) = false := by simpa using hs.2
    clear h hlater hs
    go_enter Tryz.func64, Tryz.ntmps64
    go_wp2_with (first
      | (go_at_call 65; (with_reducible refine Calls.mono HG.out ?_); rintro e w4 ⟨rfl, hb⟩; have HB4 := hide (below_trans HB0.out hb); have HZ4 := hide (HZ.out.later hb); have HN4 := hide (PAt.new w4 zs); have HZ5 := hide (HZ4.out.later (below_alloc w4 (.cells (bc zs) 32))); have HB5 := hide (below_trans HB4.out (below_alloc w4 (.cells (bc zs) 32))); clear hb)
      | ((with_reducible refine atLd 32 ?_); refine wp_loadP zs_length HN4.out _ (by rfl) (by rfl) (by rfl) ?_)
      | ((with_reducible refine atSt 32 ?_); refine wp_storeP zs_length zs_length HZ5.out _ _ (by rfl) (by rfl) (by rfl) (by rfl) ?_; intro W3 hp hb hk; have HP3 := hide hp; have HB3 := hide (hb _ _ HB5.out (by omega)); clear hp hb hk)
      | (exact ret_page2 Tryz.results64 rfl rfl zs_length HP3.out ⟨rfl, HB3.out⟩))
  · have HG : Hid (Calls Tryz.prog 65 #[.pointer v] (w.alloc (.cells (bc zs) 32)) fun e w' => e = .returned (.int .i64 0) ∧ Below (w.alloc (.cells (bc zs) 32)).heap.size (w.alloc (.cells (bc zs) 32)) w') := by
      cases h with
      | stop h he => exact absurd ⟨h, he⟩ hs
      | out h hk => exact goesOn_e _ _ 0 (h.later HB0.out).goK
      | inn h h1 h2 => exact goesOn_e _ _ 0 (h.later HB0.out).goK
    have HM : Hid (∀ V, Below w.heap.size w V → Calls Tryz.prog 66 #[.pointer (some ⟨A, 0, none⟩), .pointer (some ⟨B, 0, none⟩)] V fun e w' => e = .returned (.tuple #[.agg (bc l), .int .i64 E]) ∧ Below V.heap.size V w') := fun V hb => by
      cases h with
      | stop h he => exact absurd ⟨h, he⟩ hs
      | out h hk => exact page1_out V A B _ _ _ (h.later hb) _ hk (cell_later hb hA) (cell_later hb hB)
      | inn h h1 h2 => exact page1_in V A B _ _ _ (h.later hb) _ h1 h2 (cell_later hb hA) (cell_later hb hB)
    clear h hlater hs hA hB
    go_enter Tryz.func64, Tryz.ntmps64
    go_wp2_with (first
      | (go_at_call 65; (with_reducible refine Calls.mono HG.out ?_); rintro e w4 ⟨rfl, hb⟩; have HB4 := hide (below_trans HB0.out hb); have HZ4 := hide (HZ.out.later hb); clear hb)
      | (go_at_call 66; (with_reducible refine Calls.mono (HM.out _ HB4.out) ?_); rintro e w5 ⟨rfl, hb⟩; have HB5 := hide (below_trans HB4.out hb); have HZ5 := hide (HZ4.out.later hb); clear hb)
      | ((with_reducible refine atSt 32 ?_); refine wp_storeP HL.out zs_length HZ5.out _ _ (by rfl) (by rfl) (by rfl) (by rfl) ?_; intro W3 hp hb hk; have HP3 := hide hp; have HB3 := hide (hb _ _ HB5.out (by omega)); clear hp hb hk)
      | (exact ret_page2 Tryz.results64 rfl rfl HL.out HP3.out ⟨rfl, HB3.out⟩))
set_option maxRecDepth 20000 in
set_option maxHeartbeats 2000000 in
theorem page_e (w : World) (v : Option Addr) (k : Int) (l : List UInt8) (E : Int) (h : PgK w v k l E) :
    Calls Tryz.prog 12 #[.pointer v, .int .i64 k] w fun e w' => e = .returned (.tuple #[.agg (bc l), .int .i64 E]) ∧ Below w.heap.size w w' := by
  obtain ⟨W0, hW0⟩ : ∃ W0, W0 = ((w.alloc (.cells #[.pointer v] 26)).alloc (.cells #[.int .i64 k] 3)).alloc (.cells (bc zs) 32) := ⟨_, rfl⟩
  have HB0 : Hid (Below w.heap.size w W0) := by rw [hW0]; exact below_trans (below_trans (below_alloc _ _) (below_alloc _ _)) (below_alloc _ _)
  have hs1 : (w.alloc (.cells #[.pointer v] 26)).heap.size = w.heap.size + 1 := by simp
  have hs2 : ((w.alloc (.cells #[.pointer v] 26)).alloc (.cells #[.int .i64 k] 3)).heap.size = w.heap.size + 1 + 1 := by simp
  have HZ : Hid (PAt W0 (w.heap.size + 1 + 1) zs) := by rw [hW0, ← hs2]; exact PAt.new _ _
  have cB : W0.cell? ⟨w.heap.size, 0, none⟩ = some (.pointer v) := by rw [hW0]; exact (((Blk.new w #[.pointer v] 26).later (below_alloc _ _)).later (below_alloc _ _)).cell 0
  have cA : W0.cell? ⟨w.heap.size + 1, 0, none⟩ = some (.int .i64 k) := by rw [hW0, ← hs1]; exact ((Blk.new _ #[.int .i64 k] 3).later (below_alloc _ _)).cell 0
  have hz := zeroP
  have HL := hide h.len
  have HT := hide (tellP_e W0 (w.heap.size + 1) w.heap.size v k l E (h.later HB0.out) cA cB)
  clear h hs1 hs2 cA
  subst hW0
  go_enter Tryz.func12, Tryz.ntmps12
  go_wp2_with (first
    | (go_at_call 64; (with_reducible refine Calls.mono HT.out ?_); rintro e w5 ⟨rfl, hb⟩; have HB5 := hide (below_trans HB0.out hb); have HZ5 := hide (HZ.out.later hb); clear hb)
    | ((with_reducible refine atSt 32 ?_); refine wp_storeP HL.out zs_length HZ5.out _ _ (by rfl) (by rfl) (by rfl) (by rfl) ?_; intro W3 hp hb hk; have HP3 := hide hp; have HB3 := hide (hb _ _ HB5.out (by omega)); clear hp hb hk)
    | (exact ret_page2 Tryz.results12 rfl rfl HL.out HP3.out ⟨rfl, HB3.out⟩))
end Go.Proofs.YtenfjbcigkolaaaGreat
