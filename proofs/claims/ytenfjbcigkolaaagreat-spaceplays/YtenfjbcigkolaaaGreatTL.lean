/- A page of a transaction: Page, in every case. -/
/- A transaction: whether it may be changed, asked by a Shrink that is refused; a page put into it. -/
import Derived.Test.YtenfjbcigkolaaaGreatTJ
import Derived.Maps.Views
namespace Go.Proofs.YtenfjbcigkolaaaGreat
variable {sv : Value}
open Go.ChangeShapes Go.WideShapes Go.ChangeAt Go.RowKit Go.Maps
set_option linter.unusedVariables false

set_option maxRecDepth 20000 in
set_option maxHeartbeats 2000000 in
theorem page1_out (w : World) (A B t pm n : Nat) {P : Nat → List UInt8} {K : Nat} {wr : Bool} (h : Tr sv w t pm n P K wr) (k : Int) (h1 : k < 1 ∨ (n : Int) < k) (hA : w.cell? ⟨A, 0, none⟩ = some (.int .i64 k)) (hB : w.cell? ⟨B, 0, none⟩ = some (.pointer (some ⟨t, 0, none⟩))) :
    Calls Tryz.prog 66 #[.pointer (some ⟨A, 0, none⟩), .pointer (some ⟨B, 0, none⟩)] w fun e w' => e = .returned (.tuple #[.agg (bc zs), .int .i64 4]) ∧ Below w.heap.size w w' := by
  have HB0 := hide (below_alloc w (.cells (bc zs) 32))
  have HZ := hide (PAt.new w zs)
  have HC : Hid (∀ V, Below w.heap.size w V → V.cell? ⟨A, 0, none⟩ = some (.int .i64 k) ∧ V.cell? ⟨B, 0, none⟩ = some (.pointer (some ⟨t, 0, none⟩)) ∧ V.cell? ⟨t, 3, none⟩ = some (.int .i64 (n : Int)) ∧ V.cell? ⟨t, 4, none⟩ = some (.map (some pm))) := fun V hb => ⟨cell_later hb hA, cell_later hb hB, (h.later hb).c3, (h.later hb).c4⟩
  clear h hA hB
  have hz := zeroP
  have hbu := built_page
  by_cases l1 : k < 1
  · clear h1
    obtain ⟨cA, cB, c3, c4⟩ := HC.out _ HB0.out
    go_enter Tryz.func66, Tryz.ntmps66
    go_upto_region 1 with fail
    go_name_world W0 hW0
    rw [hW0] at HB0 HZ cA cB c3 c4
    have HB0d : Hid (Below w.heap.size w W0.drew) := below_trans HB0.out (below_drew _)
    have HZd : Hid (PAt W0.drew w.heap.size zs) := HZ.out
    go_region
    all_goals
      go_wp2_with (first
        | ((with_reducible refine atSt 32 ?_); refine wp_storeP zs_length zs_length HZd.out _ _ (by rfl) (by rfl) (by rfl) (by rfl) ?_; intro W3 hp hb hk; have HP3 := hide hp; have HB3 := hide (hb _ _ HB0d.out (by omega)); clear hp hb hk)
        | (exact ret_page2 Tryz.results66 rfl rfl zs_length HP3.out ⟨rfl, HB3.out⟩))
  · have l2 : (n : Int) < k := by omega
    clear h1
    go_enter Tryz.func66, Tryz.ntmps66
    go_upto_region 1 with fail
    go_name_world W0 hW0
    rw [hW0] at HB0 HZ
    have HB0d : Hid (Below w.heap.size w W0.drew) := below_trans HB0.out (below_drew _)
    have HZd : Hid (PAt W0.drew w.heap.size zs) := HZ.out
    go_region_held3 (fun V => V.cell? ⟨A, 0, none⟩ = some (.int .i64 k) ∧ V.cell? ⟨B, 0, none⟩ = some (.pointer (some ⟨t, 0, none⟩)) ∧ V.cell? ⟨t, 3, none⟩ = some (.int .i64 (n : Int)) ∧ V.cell? ⟨t, 4, none⟩ = some (.map (some pm))) (exact HC.out _ HB0d.out) (fail)
    all_goals
      go_wp2_with (first
        | ((with_reducible refine atSt 32 ?_); refine wp_storeP zs_length zs_length HZd.out _ _ (by rfl) (by rfl) (by rfl) (by rfl) ?_; intro W3 hp hb hk; have HP3 := hide hp; have HB3 := hide (hb _ _ HB0d.out (by omega)); clear hp hb hk)
        | (exact ret_page2 Tryz.results66 rfl rfl zs_length HP3.out ⟨rfl, HB3.out⟩))
/-- What Page answers: the page and the error. -/
inductive PgK (w : World) : Option Addr → Int → List UInt8 → Int → Prop where
  | stop {v : Option Addr} {k e : Int} (h : GoK w v e) (he : e ≠ 0) : PgK w v k zs e
  | out {sv : Value} {t pm n : Nat} {P : Nat → List UInt8} {K : Nat} {wr : Bool} {k : Int} (h : Tr sv w t pm n P K wr) (hk : k < 1 ∨ (n : Int) < k) : PgK w (some ⟨t, 0, none⟩) k zs 4
  | inn {sv : Value} {t pm n : Nat} {P : Nat → List UInt8} {K : Nat} {wr : Bool} {k : Nat} (h : Tr sv w t pm n P K wr) (h1 : 1 ≤ k) (h2 : k ≤ n) : PgK w (some ⟨t, 0, none⟩) (k : Int) (P k) 0
theorem PgK.later {w w' : World} {v : Option Addr} {k : Int} {l : List UInt8} {e : Int} (h : PgK w v k l e) (hb : Below w.heap.size w w') : PgK w' v k l e := by
  cases h with
  | stop h he => exact .stop (h.later hb) he
  | out h hk => exact .out (h.later hb) hk
  | inn h h1 h2 => exact .inn (h.later hb) h1 h2
theorem PgK.len {w : World} {v : Option Addr} {k : Int} {l : List UInt8} {e : Int} (h : PgK w v k l e) : l.length = 256 := by
  cases h with
  | stop h he => exact zs_length
  | out h hk => exact zs_length
  | inn h h1 h2 => exact h.len _
set_option maxRecDepth 20000 in
set_option maxHeartbeats 2000000 in
theorem tellP_e (w : World) (A B : Nat) (v : Option Addr) (k : Int) (l : List UInt8) (E : Int) (h : PgK w v k l E) (hA : w.cell? ⟨A, 0, none⟩ = some (.int .i64 k)) (hB : w.cell? ⟨B, 0, none⟩ = some (.pointer v)) :
    Calls Tryz.prog 64 #[.func (.func 65) #[.pointer v] #[], .func (.func 66) #[] #[.pointer (some ⟨A, 0, none⟩), .pointer (some ⟨B, 0, none⟩)]] w fun e w' => e = .returned (.tuple #[.agg (bc l), .int .i64 E]) ∧ Below w.heap.size w w' := by
  have HB0 := hide (below_alloc w (.cells (bc zs) 32))
  have HZ := hide (PAt.new w zs)
  have hz := zeroP
  have HL := hide h.len
  have hlater := h.later HB0.out
  by_cases hs : GoK w v E ∧ E ≠ 0
  · have hl0 : l = zs := by
      cases h with
      | stop h he => rfl
      | out h hk => rfl
      | inn h h1 h2 => exact absurd rfl hs.2
    subst hl0
    have HG := hide (goesOn_e _ v E (hs.1.later HB0.out))
    have he2 : (E == 0) = false := by simpa using hs.2
    clear h hlater hs
    go_enter Tryz.func64, Tryz.ntmps64
    go_wp2_with (first
      | (go_at_call 65; (with_reducible refine Calls.mono HG.out ?_); rintro e w4 ⟨rfl, hb⟩; have HB4 := hide (below_trans HB0.out hb); have HZ4 := hide (HZ.out.later hb); have HN4 := hide (PAt.new w4 zs); have HZ5 := hide (HZ4.out.later (below_alloc w4 (.cells (bc zs) 32))); have HB5 := hide (below_trans HB4.out (below_alloc w4 (.cells (bc zs) 32))); clear hb)
      | ((with_reducible refine atLd 32 ?_); refine wp_loadP zs_length HN4.out _ (by rfl) (by rfl) (by rfl) ?_)
      | ((with_reducible refine atSt 32 ?_); refine wp_storeP zs_length zs_length HZ5.out _ _ (by rfl) (by rfl) (by rfl) (by rfl) ?_; intro W3 hp hb hk; have HP3 := hide hp; have HB3 := hide (hb _ _ HB5.out (by omega)); clear hp hb hk)
      | (exact ret_page2 Tryz.results64 rfl rfl zs_length HP3.out ⟨rfl, HB3.out⟩))
  · have HG : Hid (Calls Tryz.prog 65 #[.pointer v] (w.alloc (.cells (bc zs) 32)) fun e w' => e = .returned (.int .i64 0) ∧ Below (w.alloc (.cells (bc zs) 32)).heap.size (w.alloc (.cells (bc zs) 32)) w') := by
      cases h with
      | stop h he => exact absurd ⟨h, he⟩ hs
      | out h hk => exact goesOn_e _ _ 0 (h.later HB0.out).goK
      | inn h h1 h2 => exact goesOn_e _ _ 0 (h.later HB0.out).goK
    have HM : Hid (∀ V, Below w.heap.size w V → Calls Tryz.prog 66 #[.pointer (some ⟨A, 0, none⟩), .pointer (some ⟨B, 0, none⟩)] V fun e w' => e = .returned (.tuple #[.agg (bc l), .int .i64 E]) ∧ Below V.heap.size V w') := fun V hb => by
      cases h with
      | stop h he => exact absurd ⟨h, he⟩ hs
      | out h hk => exact page1_out V A B _ _ _ (h.later hb) _ hk (cell_later hb hA) (cell_later hb hB)
      | inn h h1 h2 => exact page1_in V A B _ _ _ (h.later hb) _ h1 h2 (cell_later hb hA) (cell_later hb hB)
    clear h hlater hs hA hB
    go_enter Tryz.func64, Tryz.ntmps64
    go_wp2_with (first
      | (go_at_call 65; (with_reducible refine Calls.mono HG.out ?_); rintro e w4 ⟨rfl, hb⟩; have HB4 := hide (below_trans HB0.out hb); have HZ4 := hide (HZ.out.later hb); clear hb)
      | (go_at_call 66; (with_reducible refine Calls.mono (HM.out _ HB4.out) ?_); rintro e w5 ⟨rfl, hb⟩; have HB5 := hide (below_trans HB4.out hb); have HZ5 := hide (HZ4.out.later hb); clear hb)
      | ((with_reducible refine atSt 32 ?_); refine wp_storeP HL.out zs_length HZ5.out _ _ (by rfl) (by rfl) (by rfl) (by rfl) ?_; intro W3 hp hb hk; have HP3 := hide hp; have HB3 := hide (hb _ _ HB5.out (by omega)); clear hp hb hk)
      | (exact ret_page2 Tryz.results64 rfl rfl HL.out HP3.out ⟨rfl, HB3.out⟩))
set_option maxRecDepth 20000 in
set_option maxHeartbeats 2000000 in
theorem page_e (w : World) (v : Option Addr) (k : Int) (l : List UInt8) (E : Int) (h : PgK w v k l E) :
    Calls Tryz.prog 12 #[.pointer v, .int .i64 k] w fun e w' => e = .returned (.tuple #[.agg (bc l), .int .i64 E]) ∧ Below w.heap.size w w' := by
  obtain ⟨W0, hW0⟩ : ∃ W0, W0 = ((w.alloc (.cells #[.pointer v] 26)).alloc (.cells #[.int .i64 k] 3)).alloc (.cells (bc zs) 32) := ⟨_, rfl⟩
  have HB0 : Hid (Below w.heap.size w W0) := by rw [hW0]; exact below_trans (below_trans (below_alloc _ _) (below_alloc _ _)) (below_alloc _ _)
  have hs1 : (w.alloc (.cells #[.pointer v] 26)).heap.size = w.heap.size + 1 := by simp
  have hs2 : ((w.alloc (.cells #[.pointer v] 26)).alloc (.cells #[.int .i64 k] 3)).heap.size = w.heap.size + 1 + 1 := by simp
  have HZ : Hid (PAt W0 (w.heap.size + 1 + 1) zs) := by rw [hW0, ← hs2]; exact PAt.new _ _
  have cB : W0.cell? ⟨w.heap.size, 0, none⟩ = some (.pointer v) := by rw [hW0]; exact (((Blk.new w #[.pointer v] 26).later (below_alloc _ _)).later (below_alloc _ _)).cell 0
  have cA : W0.cell? ⟨w.heap.size + 1, 0, none⟩ = some (.int .i64 k) := by rw [hW0, ← hs1]; exact ((Blk.new _ #[.int .i64 k] 3).later (below_alloc _ _)).cell 0
  have hz := zeroP
  have HL := hide h.len
  have HT := hide (tellP_e W0 (w.heap.size + 1) w.heap.size v k l E (h.later HB0.out) cA cB)
  clear h hs1 hs2 cA
  subst hW0
  go_enter Tryz.func12, Tryz.ntmps12
  go_wp2_with (first
    | (go_at_call 64; (with_reducible refine Calls.mono HT.out ?_); rintro e w5 ⟨rfl, hb⟩; have HB5 := hide (below_trans HB0.out hb); have HZ5 := hide (HZ.out.later hb); clear hb)
    | ((with_reducible refine atSt 32 ?_); refine wp_storeP HL.out zs_length HZ5.out _ _ (by rfl) (by rfl) (by rfl) (by rfl) ?_; intro W3 hp hb hk; have HP3 := hide hp; have HB3 := hide (hb _ _ HB5.out (by omega)); clear hp hb hk)
    | (exact ret_page2 Tryz.results12 rfl rfl HL.out HP3.out ⟨rfl, HB3.out⟩))
end Go.Proofs.YtenfjbcigkolaaaGreat

namespace Go.Proofs.YtenfjbcigkolaaaGreat
open Go.ChangeShapes Go.WideShapes Go.ChangeAt Go.RowKit Go.Maps
set_option linter.unusedVariables false

theorem shrink1_neg (w : World) (A B : Nat) (v : Option Addr) (hA : w.cell? ⟨A, 0, none⟩ = some (.int .i64 (-1))) : Calls Tryz.prog 75 #[.pointer (some ⟨A, 0, none⟩), .pointer (some ⟨B, 0, none⟩)] w fun e w' => e = .returned (.int .i64 2) ∧ Below w.heap.size w w' := by
  have HB := hide (below_drew w)
  go_enter Tryz.func75, Tryz.ntmps75
  go_upto_region 1 with fail
  go_region
  all_goals
    go_wp2
    go_ret
    exact ⟨rfl, HB.out⟩
/-- What a Shrink below 0 answers. -/
def shE (E : Int) : Int := if E = 0 then 2 else E
theorem do_shrink (w : World) (A B : Nat) (v : Option Addr) (E : Int) (h : ChK w v E) (hA : w.cell? ⟨A, 0, none⟩ = some (.int .i64 (-1))) :
    Calls Tryz.prog 70 #[.func (.func 72) #[.pointer v] #[], .func (.func 75) #[] #[.pointer (some ⟨A, 0, none⟩), .pointer (some ⟨B, 0, none⟩)]] w fun e w' => e = .returned (.int .i64 (shE E)) ∧ Below w.heap.size w w' := by
  by_cases he : E = 0
  · subst he
    have HG := hide (mayChange_e w v 0 h)
    have HM := hide (fun V (hb : Below w.heap.size w V) => shrink1_neg V A B v (cell_later hb hA))
    rw [show shE 0 = 2 from rfl]
    clear h hA
    go_enter Tryz.func70, Tryz.ntmps70
    go_wp2_with (first
      | (go_at_call 72; (with_reducible refine Calls.mono HG.out ?_); rintro e w4 ⟨rfl, hb⟩; have HB4 := hide hb; clear hb)
      | (go_at_call 75; (with_reducible refine Calls.mono (HM.out _ HB4.out) ?_); rintro e w5 ⟨rfl, hb⟩; have HB5 := hide (below_trans HB4.out hb); clear hb))
    go_ret
    exact ⟨rfl, HB5.out⟩
  · rw [show shE E = E from if_neg he]
    exact do_stopM w v E h he _
theorem shrink_neg (w : World) (v : Option Addr) (E : Int) (h : ChK w v E) : Calls Tryz.prog 16 #[.pointer v, .int .i64 (-1)] w fun e w' => e = .returned (.int .i64 (shE E)) ∧ Below w.heap.size w w' := by
  have hs1 : (w.alloc (.cells #[.pointer v] 26)).heap.size = w.heap.size + 1 := by simp
  have HB0 : Hid (Below w.heap.size w ((w.alloc (.cells #[.pointer v] 26)).alloc (.cells #[.int .i64 (-1)] 3))) := below_trans (below_alloc _ _) (below_alloc _ _)
  have cA : ((w.alloc (.cells #[.pointer v] 26)).alloc (.cells #[.int .i64 (-1)] 3)).cell? ⟨w.heap.size + 1, 0, none⟩ = some (.int .i64 (-1)) := by rw [← hs1]; exact (Blk.new _ #[.int .i64 (-1)] 3).cell 0
  have HD := hide (do_shrink _ (w.heap.size + 1) w.heap.size v E (h.later HB0.out) cA)
  clear h hs1 cA
  go_enter Tryz.func16, Tryz.ntmps16
  go_wp2_with (first
    | (go_at_call 70; (with_reducible refine Calls.mono HD.out ?_); rintro e w4 ⟨rfl, hb⟩; have HB4 := hide (below_trans HB0.out hb); clear hb))
  go_ret
  exact ⟨rfl, HB4.out⟩

/-- The pages behind a Put. -/
def upP (P : Nat → List UInt8) (k : Nat) (l : List UInt8) : Nat → List UInt8 := fun i => if i = k then l else P i
theorem upP_len {P : Nat → List UInt8} {k : Nat} {l : List UInt8} (h : ∀ i, (P i).length = 256) (hl : l.length = 256) : ∀ i, (upP P k l i).length = 256 := fun i => by
  unfold upP; split
  · exact hl
  · exact h i
theorem MpI.put {w w1 : World} {pm K n k : Nat} {P : Nat → List UInt8} {l : List UInt8} {D : DataW Value} (hm : ∃ es, D = .map es) (hp : ∀ i : Nat, 1 ≤ i → i ≤ n → Maps.has D (.int .i64 (i : Int)) = true ∧ D.atKey (.int .i64 (i : Int)) zP = .held (.agg (bc (P i))))
    (h1 : w1.ownsMap Tryz.prog 3 heldR pm (K + 1) (D.put (.int .i64 (k : Int)) (.held (.agg (bc l))))) (hk : k ≤ n + 1) : MpI w1 pm (K + 1) (max n k) (upP P k l) := by
  refine ⟨_, h1, ?_, fun i hi1 hi2 => ?_⟩
  · obtain ⟨es, rfl⟩ := hm; exact ⟨_, rfl⟩
  have hkl : WideAt.IsKeyLit (Lit.int .i64 (k : Int)) := trivial
  by_cases e : i = k
  · subst e
    exact ⟨has_put_same hm hkl _, by rw [atKey_put_same hm hkl]; simp [upP]⟩
  · have hne : (Lit.int .i64 (i : Int)) ≠ .int .i64 (k : Int) := by intro h; simp at h; omega
    obtain ⟨a, b⟩ := hp i hi1 (by omega)
    exact ⟨by rw [has_put_other hne]; exact a, by rw [atKey_put_other hne, b]; simp [upP, e]⟩
theorem PAt.rng {w : World} {g : Nat} {l : List UInt8} (h : PAt w g l) : w.rangeAt g 0 (bcl l) := by
  have := Blk.range h
  simpa [bc] using this
theorem grownBy_cell (w : World) (t o : Nat) (v : Value) : w.grownBy (w.setCell ⟨t, o, none⟩ v) (some t) := ⟨rfl, rfl, rfl, by simp [World.setCell], fun k hk hn => Below.heap_setCell _ _ _ _ (fun e => hn (by simpa using e))⟩
set_option maxRecDepth 20000 in
set_option maxHeartbeats 2000000 in
theorem set_e (w : World) (t pm n K : Nat) (P : Nat → List UInt8) (hmp : MpI w pm K n P) (hK : K ≤ 100000) (k : Nat) (hk : k ≤ n + 1) (hn : n ≤ 5000) (l : List UInt8) (hl : l.length = 256) {ty : TypeId} {cs : Array Value} (hb : Blk w t cs ty) (c3 : w.cell? ⟨t, 3, none⟩ = some (.int .i64 (n : Int))) (c4 : w.cell? ⟨t, 4, none⟩ = some (.map (some pm))) :
    Calls Tryz.prog 74 #[.pointer (some ⟨t, 3, none⟩), .int .i64 (k : Int), .agg (bc l)] w fun e w' => e = .returned (.tuple #[]) ∧ Blk w' t (cs.setIfInBounds 3 (.int .i64 ((max n k : Nat) : Int))) ty ∧ MpI w' pm (K + 1) (max n k) (upP P k l) ∧ Only [t, pm] w w' := by
  obtain ⟨M, hM⟩ : ∃ M, M = max n k := ⟨_, rfl⟩
  rw [← hM]
  have hB0 : Below w.heap.size w (w.alloc (.cells (bc l) 32)).drew := below_trans (below_alloc _ _) (below_drew _)
  obtain ⟨D, hD, hm, hp⟩ := hmp
  have hD0 := hD.kept (grown_of_below hB0) (by simp)
  obtain ⟨w1, hrun, hown, hg⟩ := hD0.update (int_keyed Tryz.underlying3) Tryz.underlying122 (by unfold maxLen; omega) (keyOf_int_mk Tryz.underlying3 (num_wf (n := k) (by omega))) (val := .agg (bc l)) (d := .held (.agg (bc l))) (ps := []) rfl
  have hne : t ≠ pm := by
    obtain ⟨es, cl, he, _⟩ := hD
    exact blk_map hb he
  have HM := hide (MpI.put (w := w) hm hp hown hk)
  rw [← hM] at HM
  have HMx := hide hM
  clear hM
  have hb1 : Blk w1 t cs ty := (hg.block t (Blk.later hb hB0).lt (by simpa using hne)).trans (Blk.later hb hB0)
  have HO1 : Hid (Only [t, pm] w w1) := (Only.of_below hB0).trans ((Only.of_grown hg).mono (by simp))
  have c31 : w1.cell? ⟨t, 3, none⟩ = some (.int .i64 (n : Int)) := by
    rw [hb1.cell, ← hb.cell]; exact c3
  have f31 := hb1.frozen 3
  have HB1 := hide hb1
  have HNe := hide hne
  have HC : Hid ((w.alloc (.cells (bc l) 32)).drew.cell? ⟨t, 4, none⟩ = some (.map (some pm)) ∧ (w.alloc (.cells (bc l) 32)).drew.rangeAt w.heap.size 0 (bcl l)) := ⟨cell_later hB0 c4, (show PAt (w.alloc (.cells (bc l) 32)).drew w.heap.size l from PAt.new w l).rng⟩
  have hpl : pm < w.heap.size := hD.lt
  have hpw : PAt w1 w.heap.size l := (hg.block w.heap.size (by show _ < (w.alloc (.cells (bc l) 32)).heap.size; simp) (by simp; omega)).trans (show PAt (w.alloc (.cells (bc l) 32)).drew w.heap.size l from PAt.new w l)
  have HC1 : Hid (w1.cell? ⟨t, 4, none⟩ = some (.map (some pm)) ∧ w1.rangeAt w.heap.size 0 (bcl l)) := ⟨by rw [hb1.cell, ← hb.cell]; exact c4, hpw.rng⟩
  have hsz : (Tryz.prog.info? 32).map (·.size) = some (bcl l).length := by rw [page_info]; simp [bcl, hl]
  clear hpl hpw
  clear hD hD0 hown hg hp hm hb1 hb c3 c4 hB0 hne
  have hu := page_arr
  have hrun2 : (Instr.mapUpdate 122 (.map (some pm)) (.int .i64 (k : Int)) (.agg (bcl l).toArray)).run Tryz.prog (w.alloc (.cells (bc l) 32)).drew = .ok () w1 := hrun
  clear hrun
  go_enter Tryz.func74, Tryz.ntmps74
  go_upto_region 1 with fail
  go_region_held3 (fun V => V.cell? ⟨t, 4, none⟩ = some (.map (some pm)) ∧ V.rangeAt w.heap.size 0 (bcl l)) (first | exact HC.out | exact HC1.out) (fail)
  all_goals
    clear hrun2
    go_wp2
    all_goals go_end0
    all_goals
      refine ⟨rfl, ?_, ?_, HO1.out.trans ((Only.setCell w1 ⟨t, 3, none⟩ _).mono (by simp))⟩
    · rename_i h
      rw [show M = k by have := HMx.out; omega]
      exact HB1.out.set 3 _
    · rename_i h
      exact HM.out.kept (row := some t) (grownBy_cell w1 t 3 _) (by have := HNe.out; simp; omega)
    · rename_i h
      rw [show M = n by have := HMx.out; omega]
      exact HB1.out.set 3 _
    · rename_i h
      exact HM.out.kept (row := some t) (grownBy_cell w1 t 3 _) (by have := HNe.out; simp; omega)
end Go.Proofs.YtenfjbcigkolaaaGreat
