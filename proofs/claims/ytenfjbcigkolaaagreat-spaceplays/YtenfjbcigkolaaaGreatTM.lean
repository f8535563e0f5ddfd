/- A page put into a transaction. -/
import Derived.Test.YtenfjbcigkolaaaGreatTL
namespace Go.Proofs.YtenfjbcigkolaaaGreat
variable {sv : Value}
open Go.ChangeShapes Go.WideShapes Go.ChangeAt Go.RowKit Go.Maps
set_option linter.unusedVariables false

theorem DE.only {w w' : World} {d mb : Nat} {room : Int} {S : List Nat} (h : DE w d mb room) (ho : Only S w w') (h1 : d ∉ S) (h2 : mb ∉ S) : DE w' d mb room := ⟨h.blk.only ho h1, ho.blk h.mp h2⟩
theorem Gr.only {w w' : World} {j d mb l : Nat} {room : Int} {L : List Int} {S : List Nat} (h : Gr w j d mb l room L) (ho : Only S w w') (h1 : j ∉ S) (h2 : d ∉ S) (h3 : mb ∉ S) (h4 : l ∉ S) : Gr w' j d mb l room L := ⟨h.jr.only ho h1, h.de.only ho h2 h3, Blk.only h.lk ho h4, h.l8⟩
/-- What lies apart from a transaction's own two blocks. -/
theorem Tr.apart {w w' : World} {t pm n : Nat} {P : Nat → List UInt8} {K : Nat} {wr : Bool} (h : Tr sv w t pm n P K wr) (ho : Only [t, pm] w w') {b : Nat} {c : Array Value} {ty : TypeId} (hb : Blk w b c ty) (hty : ty ≠ 127) : Blk w' b c ty := by
  obtain ⟨⟨j, d, mb, l, room, L, cn, h1, h2, h3⟩, ⟨D, ⟨es, cl, he, _⟩, _⟩, h5, h6⟩ := h
  have n1 := blk_ne hb h2 hty
  have n2 := blk_map hb he
  exact hb.only ho (by simp; omega)
theorem Tr.putW {w w' : World} {t pm n : Nat} {P : Nat → List UInt8} {K : Nat} {wr : Bool} (h : Tr sv w t pm n P K wr) {M : Nat} {Q : Nat → List UInt8} {K2 : Nat} (ho : Only [t, pm] w w') (hb : ∀ cs, Blk w t cs 127 → Blk w' t (cs.setIfInBounds 3 (.int .i64 (M : Int))) 127) (hm : MpI w' pm K2 M Q) (hl : ∀ i, (Q i).length = 256) (hM : M ≤ 4096) : Tr sv w' t pm M Q K2 wr := by
  obtain ⟨⟨j, d, mb, l, room, L, cn, h1, h2, h3⟩, ⟨D, ⟨es, cl, he, _⟩, _⟩, h5, h6⟩ := h
  refine ⟨⟨j, d, mb, l, room, L, cn, h1.only ho ?_ ?_ ?_ ?_, hb _ h2, h3⟩, hm, hl, hM⟩
  · have a := blk_ne h1.jr h2 (by decide); have b := blk_map h1.jr he; simp; omega
  · have a := blk_ne h1.de.blk h2 (by decide); have b := blk_map h1.de.blk he; simp; omega
  · have a := blk_map h2 h1.de.mp; simp; omega
  · have a := blk_ne h1.lk h2 (by decide); have b := blk_map h1.lk he; simp; omega
/-- What Put answers, and what there is then. -/
inductive PtK (w : World) : Option Addr → Int → List UInt8 → Int → (World → Prop) → Prop where
  | stop {v : Option Addr} {k e : Int} {l : List UInt8} (h : ChK w v e) (he : e ≠ 0) : PtK w v k l e (fun w' => Below w.heap.size w w')
  | out {sv : Value} {t pm n : Nat} {P : Nat → List UInt8} {K : Nat} {k : Int} {l : List UInt8} (h : Tr sv w t pm n P K true) (hk : k < 1 ∨ (n : Int) + 1 < k) : PtK w (some ⟨t, 0, none⟩) k l 4 (fun w' => Below w.heap.size w w')
  | full {sv : Value} {t pm n : Nat} {P : Nat → List UInt8} {K : Nat} {l : List UInt8} (h : Tr sv w t pm n P K true) (hn : n = 4096) : PtK w (some ⟨t, 0, none⟩) 4097 l 5 (fun w' => Below w.heap.size w w')
  | inn {sv : Value} {t pm n : Nat} {P : Nat → List UInt8} {K : Nat} {k : Nat} {l : List UInt8} (h : Tr sv w t pm n P K true) (h1 : 1 ≤ k) (h2 : k ≤ n + 1) (h3 : k ≤ 4096) (hK : K ≤ 100000) : PtK w (some ⟨t, 0, none⟩) (k : Int) l 0 (fun w' => Tr sv w' t pm (max n k) (upP P k l) (K + 1) true ∧ Only [t, pm] w w')
/-- The closure, of a transaction that may be changed. -/
theorem put1_out (w : World) (A B C t pm n : Nat) {P : Nat → List UInt8} {K : Nat} {wr : Bool} (h : Tr sv w t pm n P K wr) (k : Int) (h1 : k < 1 ∨ (n : Int) + 1 < k) (hA : w.cell? ⟨A, 0, none⟩ = some (.int .i64 k)) (hB : w.cell? ⟨B, 0, none⟩ = some (.pointer (some ⟨t, 0, none⟩))) :
    Calls Tryz.prog 73 #[.pointer (some ⟨A, 0, none⟩), .pointer (some ⟨B, 0, none⟩), .pointer (some ⟨C, 0, none⟩)] w fun e w' => e = .returned (.int .i64 4) ∧ Below w.heap.size w w' := by
  have HB0 := hide (below_drew w)
  have c3 := h.c3
  have few := h.few
  have hw : IntKind.i64.wrap ((n : Int) + 1) = (n : Int) + 1 := by rw [IntKind.wrap_i64]; omega
  clear h few
  by_cases l1 : k < 1
  · clear h1
    go_enter Tryz.func73, Tryz.ntmps73
    go_upto_region 1 with fail
    go_region
    all_goals
      go_wp2
      go_ret
      exact ⟨rfl, HB0.out⟩
  · have l2 : (n : Int) + 1 < k := by omega
    clear h1
    have HC : Hid (w.drew.cell? ⟨A, 0, none⟩ = some (.int .i64 k) ∧ w.drew.cell? ⟨B, 0, none⟩ = some (.pointer (some ⟨t, 0, none⟩)) ∧ w.drew.cell? ⟨t, 3, none⟩ = some (.int .i64 (n : Int))) := ⟨hA, hB, c3⟩
    clear hA hB c3
    go_enter Tryz.func73, Tryz.ntmps73
    go_upto_region 1 with fail
    go_region_held3 (fun V => V.cell? ⟨A, 0, none⟩ = some (.int .i64 k) ∧ V.cell? ⟨B, 0, none⟩ = some (.pointer (some ⟨t, 0, none⟩)) ∧ V.cell? ⟨t, 3, none⟩ = some (.int .i64 (n : Int))) (exact HC.out) (fail)
    all_goals
      go_wp2
      go_ret
      exact ⟨rfl, HB0.out⟩
theorem put1_full (w : World) (A B C t pm n : Nat) {P : Nat → List UInt8} {K : Nat} {wr : Bool} (h : Tr sv w t pm n P K wr) (hn : n = 4096) (hA : w.cell? ⟨A, 0, none⟩ = some (.int .i64 4097)) (hB : w.cell? ⟨B, 0, none⟩ = some (.pointer (some ⟨t, 0, none⟩))) :
    Calls Tryz.prog 73 #[.pointer (some ⟨A, 0, none⟩), .pointer (some ⟨B, 0, none⟩), .pointer (some ⟨C, 0, none⟩)] w fun e w' => e = .returned (.int .i64 5) ∧ Below w.heap.size w w' := by
  subst hn
  have HB0 := hide (below_drew w)
  have c3 : w.cell? ⟨t, 3, none⟩ = some (.int .i64 4096) := h.c3
  clear h
  have HC : Hid (w.drew.cell? ⟨A, 0, none⟩ = some (.int .i64 4097) ∧ w.drew.cell? ⟨B, 0, none⟩ = some (.pointer (some ⟨t, 0, none⟩)) ∧ w.drew.cell? ⟨t, 3, none⟩ = some (.int .i64 4096)) := ⟨hA, hB, c3⟩
  clear hA hB c3
  go_enter Tryz.func73, Tryz.ntmps73
  go_upto_region 1 with fail
  go_region_held3 (fun V => V.cell? ⟨A, 0, none⟩ = some (.int .i64 4097) ∧ V.cell? ⟨B, 0, none⟩ = some (.pointer (some ⟨t, 0, none⟩)) ∧ V.cell? ⟨t, 3, none⟩ = some (.int .i64 4096)) (exact HC.out) (fail)
  all_goals
    have cA := HC.out.1
    go_wp2
    go_ret
    exact ⟨rfl, HB0.out⟩
set_option maxRecDepth 20000 in
set_option maxHeartbeats 2000000 in
theorem put1_in (w : World) (A B C t pm n : Nat) {P : Nat → List UInt8} {K : Nat} {wr : Bool} (h : Tr sv w t pm n P K wr) (k : Nat) (h1 : 1 ≤ k) (h2 : k ≤ n + 1) (h3 : k ≤ 4096) (hK : K ≤ 100000) (l : List UInt8) (hl : l.length = 256) (hA : Blk w A #[.int .i64 (k : Int)] 3) (hB : Blk w B #[.pointer (some ⟨t, 0, none⟩)] 26) (hC : PAt w C l) :
    Calls Tryz.prog 73 #[.pointer (some ⟨A, 0, none⟩), .pointer (some ⟨B, 0, none⟩), .pointer (some ⟨C, 0, none⟩)] w fun e w' => e = .returned (.int .i64 0) ∧ Tr sv w' t pm (max n k) (upP P k l) (K + 1) wr ∧ Only [t, pm] w w' := by
  have few := h.few
  have l1 : ¬ (k : Int) < 1 := by omega
  have l2 : ¬ (n : Int) + 1 < (k : Int) := by omega
  have l3 : ¬ (4096 : Int) < (k : Int) := by omega
  have hw : IntKind.i64.wrap ((n : Int) + 1) = (n : Int) + 1 := by rw [IntKind.wrap_i64]; omega
  have HC : Hid (∀ V, Below w.heap.size w V → V.cell? ⟨A, 0, none⟩ = some (.int .i64 (k : Int)) ∧ V.cell? ⟨B, 0, none⟩ = some (.pointer (some ⟨t, 0, none⟩)) ∧ V.cell? ⟨t, 3, none⟩ = some (.int .i64 (n : Int)) ∧ V.rangeAt C 0 (bcl l)) := fun V hb => ⟨(hA.later hb).cell 0, (hB.later hb).cell 0, (h.later hb).c3, (hC.later hb).rng⟩
  have HC5 : Hid (∀ V, Only [t, pm] w V → V.cell? ⟨A, 0, none⟩ = some (.int .i64 (k : Int)) ∧ V.cell? ⟨B, 0, none⟩ = some (.pointer (some ⟨t, 0, none⟩)) ∧ V.rangeAt C 0 (bcl l)) := fun V ho => ⟨(h.apart ho hA (by decide)).cell 0, (h.apart ho hB (by decide)).cell 0, (show PAt V C l from h.apart ho hC (by decide)).rng⟩
  have hbd : Below w.heap.size w w.drew.drew := below_trans (below_drew _) (below_drew _)
  have HS : Hid (Calls Tryz.prog 74 #[.pointer (some ⟨t, 3, none⟩), .int .i64 (k : Int), .agg (bcl l).toArray] w.drew.drew fun e w' => e = .returned (.tuple #[]) ∧ Tr sv w' t pm (max n k) (upP P k l) (K + 1) wr ∧ Only [t, pm] w w') := by
    have h' := h.later hbd
    obtain ⟨cs, hcs⟩ : ∃ cs, Blk w.drew.drew t cs 127 := by
      obtain ⟨⟨j, d, mb, l, room, L, cn, q1, q2, q3⟩, _⟩ := h'
      exact ⟨_, q2⟩
    refine (set_e w.drew.drew t pm n K P h'.mp hK k h2 (by omega) l hl hcs h'.c3 h'.c4).mono ?_
    rintro e w' ⟨rfl, q1, q2, q3⟩
    refine ⟨rfl, h'.putW q3 (fun cs' hc' => ?_) q2 (upP_len h.len hl) (by omega), (Only.of_below hbd).trans q3⟩
    have := hcs.symm.trans hc'
    injection this with this
    injection this with this
    subst this
    exact q1
  have HB0d : Hid (Below w.heap.size w w.drew) := below_drew _
  have HB0e : Hid (Below w.heap.size w w.drew.drew) := hbd
  clear h hA hB hC hbd few
  have hu := page_arr
  have hsz : (Tryz.prog.info? 32).map (·.size) = some (bcl l).length := by rw [page_info]; simp [bcl, hl]
  go_enter Tryz.func73, Tryz.ntmps73
  go_upto_region 1 with fail
  go_region_held3 (fun V => V.cell? ⟨A, 0, none⟩ = some (.int .i64 (k : Int)) ∧ V.cell? ⟨B, 0, none⟩ = some (.pointer (some ⟨t, 0, none⟩)) ∧ V.cell? ⟨t, 3, none⟩ = some (.int .i64 (n : Int)) ∧ V.rangeAt C 0 (bcl l)) (exact HC.out _ HB0d.out) (fail)
  all_goals
    have cA := (HC.out _ HB0d.out).1
    go_upto_region 5 with fail
    clear cA
    go_region_held3 (fun V => V.cell? ⟨A, 0, none⟩ = some (.int .i64 (k : Int)) ∧ V.cell? ⟨B, 0, none⟩ = some (.pointer (some ⟨t, 0, none⟩)) ∧ V.rangeAt C 0 (bcl l)) (first | exact ⟨(HC.out _ HB0e.out).1, (HC.out _ HB0e.out).2.1, (HC.out _ HB0e.out).2.2.2⟩ | exact HC5.out _ HB5.out.2) (first | (go_at_call 74; (with_reducible refine Calls.mono HS.out ?_); rintro e w5 ⟨rfl, hb⟩; have HB5 := hide hb; clear hb))
  all_goals
    go_wp2
    go_ret
    exact ⟨rfl, HB5.out⟩
/-- 'do' with Put's closure. -/
theorem do_put (w : World) (A B C : Nat) (v : Option Addr) (k : Int) (l : List UInt8) (hl : l.length = 256) (E : Int) (R : World → Prop) (h : PtK w v k l E R) (hA : Blk w A #[.int .i64 k] 3) (hB : Blk w B #[.pointer v] 26) (hC : PAt w C l) :
    Calls Tryz.prog 70 #[.func (.func 72) #[.pointer v] #[], .func (.func 73) #[] #[.pointer (some ⟨A, 0, none⟩), .pointer (some ⟨B, 0, none⟩), .pointer (some ⟨C, 0, none⟩)]] w fun e w' => e = .returned (.int .i64 E) ∧ R w' := by
  cases h with
  | stop h he => exact do_stopM w v E h he _
  | @out _ t pm n P K k l h hk =>
    have HG := hide (mayChange_e w _ 0 h.chK)
    have HM := hide (fun V (hb : Below w.heap.size w V) => put1_out V A B C _ _ _ (h.later hb) _ hk ((hA.later hb).cell 0) ((hB.later hb).cell 0))
    clear h hA hB hC
    go_enter Tryz.func70, Tryz.ntmps70
    go_wp2_with (first
      | (go_at_call 72; (with_reducible refine Calls.mono HG.out ?_); rintro e w4 ⟨rfl, hb⟩; have HB4 := hide hb; clear hb)
      | (go_at_call 73; (with_reducible refine Calls.mono (HM.out _ HB4.out) ?_); rintro e w5 ⟨rfl, hb⟩; have HB5 := hide (below_trans HB4.out hb); clear hb))
    go_ret
    exact ⟨rfl, HB5.out⟩
  | @full _ t pm n P K l h hn =>
    have HG := hide (mayChange_e w _ 0 h.chK)
    have HM := hide (fun V (hb : Below w.heap.size w V) => put1_full V A B C _ _ _ (h.later hb) hn ((hA.later hb).cell 0) ((hB.later hb).cell 0))
    clear h hA hB hC
    go_enter Tryz.func70, Tryz.ntmps70
    go_wp2_with (first
      | (go_at_call 72; (with_reducible refine Calls.mono HG.out ?_); rintro e w4 ⟨rfl, hb⟩; have HB4 := hide hb; clear hb)
      | (go_at_call 73; (with_reducible refine Calls.mono (HM.out _ HB4.out) ?_); rintro e w5 ⟨rfl, hb⟩; have HB5 := hide (below_trans HB4.out hb); clear hb))
    go_ret
    exact ⟨rfl, HB5.out⟩
  | @inn _ t pm n P K k l h h1 h2 h3 hK =>
    have HG := hide (mayChange_e w _ 0 h.chK)
    have HM := hide (fun V (hb : Below w.heap.size w V) => put1_in V A B C _ _ _ (h.later hb) _ h1 h2 h3 hK l hl (hA.later hb) (hB.later hb) (hC.later hb))
    clear h hA hB hC
    go_enter Tryz.func70, Tryz.ntmps70
    go_wp2_with (first
      | (go_at_call 72; (with_reducible refine Calls.mono HG.out ?_); rintro e w4 ⟨rfl, hb⟩; have HB4 := hide hb; clear hb)
      | (go_at_call 73; (with_reducible refine Calls.mono (HM.out _ HB4.out) ?_); rintro e w5 ⟨rfl, hb⟩; have HB5 := hide (And.intro hb.1 (Only.after_below HB4.out hb.2)); clear hb))
    go_ret
    exact ⟨rfl, HB5.out⟩
theorem PtK.later {w V : World} {v : Option Addr} {k : Int} {l : List UInt8} {E : Int} {R : World → Prop} (h : PtK w v k l E R) (hb : Below w.heap.size w V) : ∃ R', PtK V v k l E R' ∧ ∀ w', R' w' → R w' := by
  cases h with
  | stop h he => exact ⟨_, .stop (h.later hb) he, fun w' hw => below_trans hb hw⟩
  | out h hk => exact ⟨_, .out (h.later hb) hk, fun w' hw => below_trans hb hw⟩
  | full h hn => exact ⟨_, .full (h.later hb) hn, fun w' hw => below_trans hb hw⟩
  | inn h h1 h2 h3 hK => exact ⟨_, .inn (h.later hb) h1 h2 h3 hK, fun w' hw => ⟨hw.1, Only.after_below hb hw.2⟩⟩
set_option maxRecDepth 20000 in
set_option maxHeartbeats 2000000 in
theorem put_e (w : World) (v : Option Addr) (k : Int) (l : List UInt8) (hl : l.length = 256) (E : Int) (R : World → Prop) (h : PtK w v k l E R) :
    Calls Tryz.prog 15 #[.pointer v, .int .i64 k, .agg (bc l)] w fun e w' => e = .returned (.int .i64 E) ∧ R w' := by
  have hs1 : (w.alloc (.cells #[.pointer v] 26)).heap.size = w.heap.size + 1 := by simp
  have hs2 : ((w.alloc (.cells #[.pointer v] 26)).alloc (.cells #[.int .i64 k] 3)).heap.size = w.heap.size + 1 + 1 := by simp
  obtain ⟨W0, hW0⟩ : ∃ W0, W0 = ((w.alloc (.cells #[.pointer v] 26)).alloc (.cells #[.int .i64 k] 3)).alloc (.cells (bc l) 32) := ⟨_, rfl⟩
  have HB0 : Hid (Below w.heap.size w W0) := by rw [hW0]; exact below_trans (below_trans (below_alloc _ _) (below_alloc _ _)) (below_alloc _ _)
  have hC : PAt W0 (w.heap.size + 1 + 1) l := by rw [hW0, ← hs2]; exact PAt.new _ _
  have hB : Blk W0 w.heap.size #[.pointer v] 26 := by rw [hW0]; exact (((Blk.new w #[.pointer v] 26).later (below_alloc _ _)).later (below_alloc _ _))
  have hA : Blk W0 (w.heap.size + 1) #[.int .i64 k] 3 := by rw [hW0, ← hs1]; exact ((Blk.new _ #[.int .i64 k] 3).later (below_alloc _ _))
  obtain ⟨R', hR', hR⟩ := h.later HB0.out
  have HR := hide hR
  have cB : W0.cell? ⟨w.heap.size, 0, none⟩ = some (.pointer v) := hB.cell 0
  have HD := hide (do_put W0 (w.heap.size + 1) w.heap.size (w.heap.size + 1 + 1) v k l hl E R' hR' hA hB hC)
  clear h hs1 hs2 hA hB hC hR' hR
  subst hW0
  go_enter Tryz.func15, Tryz.ntmps15
  go_wp2_with (first
    | (go_at_call 70; (with_reducible refine Calls.mono HD.out ?_); rintro e w4 ⟨rfl, hb⟩; have HB4 := hide (HR.out _ hb); clear hb))
  go_ret
  exact ⟨rfl, HB4.out⟩
end Go.Proofs.YtenfjbcigkolaaaGreat
