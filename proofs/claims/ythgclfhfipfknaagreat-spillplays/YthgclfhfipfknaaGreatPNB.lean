/- Savepoints: Back's walk. -/
/- Package spill: a page of a chain is given back, over any pages. -/
import Derived.Test.YthgclfhfipfknaaGreatZJ
import Derived.Test.YthgclfhfipfknaaGreatQC
import Derived.Test.YthgclfhfipfknaaGreatQH
namespace Go.Proofs.YthgclfhfipfknaaGreat
variable {sv : Value}
open Go.ChangeShapes Go.WideShapes Go.ChangeAt Go.RowKit Go.Maps
set_option linter.unusedVariables false

theorem bkS {V : World} {A B t g i : Nat} {s : Sn} (h : BkF V A B t g i sv s) : V.cell? ⟨B, 0, none⟩ = some (.pointer (some ⟨t, 0, none⟩)) ∧ V.cell? ⟨A, 0, none⟩ = some (.int .i64 ((i : Int) + 1)) ∧ V.cell? ⟨t, 5, none⟩ = some sv ∧ V.cell? ⟨g, i * 2, none⟩ = some (.int .i64 (s.n : Int)) ∧ V.cell? ⟨g, i * 2 + 1, none⟩ = some (.map (some s.pm)) := ⟨h.cB, h.cA, h.c5, h.r0, h.r1⟩
theorem forget_s (w : World) (t pm n base i : Nat) {P : Nat → List UInt8} {K : Nat} {wr : Bool} {S : List Sn} (h : Tr sv w t pm n P K wr) (hs : Sv w base sv S pm) (hi : i + 1 ≤ S.length) (hS : S.length ≤ 2000) :
    Calls Tryz.prog 194 #[.pointer (some ⟨t, 0, none⟩), .int .i64 ((i : Int) + 1)] w fun e w' => e = .returned (.tuple #[]) ∧ ∃ sv', FgW w w' t pm n base P K wr sv sv' S (i + 1) := forget_e w t pm n base (i + 1) h hs hi hS
set_option maxRecDepth 20000 in
set_option maxHeartbeats 2000000 in
theorem back1_e (w : World) (A B t pm n base i : Nat) {P : Nat → List UInt8} {K : Nat} {wr : Bool} {S : List Sn} {s : Sn} (h : Tr sv w t pm n P K wr) (hs : Sv w base sv S pm) (hB : Blk w B #[.pointer (some ⟨t, 0, none⟩)] 24) (hA : Blk w A #[.int .i64 ((i : Int) + 1)] 3) (hi : S[i]? = some s) (hS : S.length ≤ 2000) (hbase : base ≤ w.heap.size) :
    Calls Tryz.prog 195 #[.pointer (some ⟨B, 0, none⟩), .pointer (some ⟨A, 0, none⟩)] w fun e w' => e = .returned (.int .i64 0) ∧ ∃ sv' q, w.heap.size ≤ q ∧ FgW w w' t q s.n base s.P s.K wr sv sv' S (i + 1) := by
  have hlt : i < S.length := (List.getElem?_eq_some_iff.1 hi).1
  have hmem : s ∈ S := List.mem_of_getElem? hi
  obtain ⟨p, cap, rfl, h1, h2, h3⟩ := own_formC hs.row
  obtain ⟨g, rfl⟩ : ∃ g, p = some ⟨g, 0, none⟩ := by
    rcases h3 with h3 | h3
    · omega
    · exact h3
  have HF := hide (fun V (hb : Below w.heap.size w V) => bkf_mk (h.later hb) (hs.later hb) (hB.later hb) (hA.later hb) hi)
  have cB := (HF.out _ (below_refl w)).cB
  have cA := (HF.out _ (below_refl w)).cA
  have HH := hide (hasSave_e w t pm n base ((i : Int) + 1) h hs)
  rw [show hsB ((i : Int) + 1) S.length = true from decide_eq_true (by omega)] at HH
  have HS0 := hide (bkS (HF.out _ (below_drew w)))
  have HCl := hide (clone_e w.drew s.pm s.K s.n ((hs.each s hmem).1.later (below_drew w)))
  have HBk := hide (fun (w3 : World) (q : Nat) (hb : Below w.heap.size w w3) (hq : MpI w3 q s.K s.n s.P) (hqn : w.heap.size ≤ q) => back_store h hs hb hq hqn (hs.each s hmem).2.2.2.1 (hs.each s hmem).2.2.2.2)
  have HTx := hide (fun V (hb : Below w.heap.size w V) => And.intro (h.later hb).c3 (And.intro (h.later hb).c4 (And.intro ((h.later hb).frz 3) ((h.later hb).frz 4))))
  have HBB := hide (And.intro hB hA)
  have HFg := hide (fun (V : World) (q : Nat) (ht : Tr (.slice (some ⟨g, 0, none⟩) S.length cap) V t q s.n s.P s.K wr) (hv : Sv V base (.slice (some ⟨g, 0, none⟩) S.length cap) S q) => forget_s V t q s.n base i ht hv (by omega) hS)
  have HMk := hide (fun (V : World) (q : Nat) (ht : Tr (.slice (some ⟨g, 0, none⟩) S.length cap) V t q s.n s.P s.K wr) (hv : Sv V base (.slice (some ⟨g, 0, none⟩) S.length cap) S q) (ho : Only [t] w V) => bkf_mk (s := s) (i := i) (A := A) (B := B) ht hv (by
      obtain ⟨cs, hc⟩ := h.blk
      exact hB.only ho (by have := blk_ne hB hc (by decide); simpa using this)) (by
      obtain ⟨cs, hc⟩ := h.blk
      exact hA.only ho (by have := blk_ne hA hc (by decide); simpa using this)) hi)
  have hw1 : IntKind.i64.wrap ((i : Int) + 1 - 1) = (i : Int) := by rw [IntKind.wrap_i64]; omega
  have hw2 : IntKind.i64.wrap (i : Int) = (i : Int) := by rw [IntKind.wrap_i64]; omega
  have l0 : (0 : Int) ≤ (i : Int) := by omega
  have l1 : (i : Int) < (S.length : Int) := by omega
  clear h hs hB hA hi h1 h2 h3 hS hmem hlt
  go_enter Tryz.func195, Tryz.ntmps195
  go_upto_region 3 with (first
    | (go_at_call 193; (with_reducible refine Calls.mono HH.out ?_); rintro e w4 ⟨rfl, rfl⟩))
  go_region_held3 (fun V => V.cell? ⟨B, 0, none⟩ = some (.pointer (some ⟨t, 0, none⟩)) ∧ V.cell? ⟨A, 0, none⟩ = some (.int .i64 ((i : Int) + 1)) ∧ V.cell? ⟨t, 5, none⟩ = some (.slice (some ⟨g, 0, none⟩) S.length cap) ∧ V.cell? ⟨g, i * 2, none⟩ = some (.int .i64 (s.n : Int)) ∧ V.cell? ⟨g, i * 2 + 1, none⟩ = some (.map (some s.pm))) (first | with_reducible exact HS0.out | with_reducible exact HS3.out | with_reducible exact HS4.out) (first
    | (go_at_call 191; (with_reducible refine Calls.mono HCl.out ?_); rintro e w3 ⟨q, rfl, hm, hb, hqn⟩; have hb3 := below_trans (below_drew w) hb; have HS3 := hide (bkS (HF.out _ hb3)); obtain ⟨z3, z4, y3, y4⟩ := HTx.out _ hb3; obtain ⟨k1, k2, k3⟩ := HBk.out _ _ hb3 hm hqn; have hf4 := HMk.out _ _ k1 k2 k3; have HS4 := hide (bkS hf4); have cB4 := hf4.cB; have cA4 := hf4.cA; have HT4 := hide k1; have HV4 := hide k2; have HO4 := hide k3; have HQ4 := hide hqn; clear hm hb hqn hb3 k1 k2 k3 hf4))
  all_goals
    go_wp2_with (first
      | (go_at_call 194; (with_reducible refine Calls.mono (HFg.out _ _ HT4.out HV4.out) ?_); rintro e w5 ⟨rfl, sv5, hf⟩; have HF5 := hide hf; clear hf))
    go_ret
    exact ⟨rfl, _, _, HQ4.out, HF5.out.tr, HF5.out.ss, Only.trans (HO4.out.mono (by simp)) HF5.out.on⟩
set_option maxRecDepth 20000 in
theorem back1_none (w : World) (A B t pm n base : Nat) (i : Int) {P : Nat → List UInt8} {K : Nat} {wr : Bool} {S : List Sn} (h : Tr sv w t pm n P K wr) (hs : Sv w base sv S pm) (hB : Blk w B #[.pointer (some ⟨t, 0, none⟩)] 24) (hA : Blk w A #[.int .i64 i] 3) (hi : hsB i S.length = false) :
    Calls Tryz.prog 195 #[.pointer (some ⟨B, 0, none⟩), .pointer (some ⟨A, 0, none⟩)] w fun e w' => e = .returned (.int .i64 4) ∧ Below w.heap.size w w' := by
  have cB : w.cell? ⟨B, 0, none⟩ = some (.pointer (some ⟨t, 0, none⟩)) := hB.cell 0
  have cA : w.cell? ⟨A, 0, none⟩ = some (.int .i64 i) := hA.cell 0
  have HH := hide (hasSave_e w t pm n base i h hs)
  rw [hi] at HH
  clear h hs hB hA hi
  go_enter Tryz.func195, Tryz.ntmps195
  go_wp2_with (first
    | (go_at_call 193; (with_reducible refine Calls.mono HH.out ?_); rintro e w4 ⟨rfl, rfl⟩))
  go_ret
  exact ⟨rfl, below_refl w⟩
/-- What Back answers, and leaves. -/
def BaW (w w' : World) (t pm n base : Nat) (P : Nat → List UInt8) (K : Nat) (wr : Bool) (sv : Value) (S : List Sn) : Option (Sn × Nat) → Prop
  | none => Below w.heap.size w w'
  | some (s, i) => ∃ sv' q, w.heap.size ≤ q ∧ FgW w w' t q s.n base s.P s.K wr sv sv' S (i + 1)
def baE : Option (Sn × Nat) → Int
  | none => 4
  | some _ => 0
/-- Which savepoint is meant. -/
inductive BaK (S : List Sn) : Int → Option (Sn × Nat) → Prop where
  | none {i : Int} (h : hsB i S.length = false) : BaK S i Option.none
  | some {i : Nat} {s : Sn} (h : S[i]? = some s) : BaK S ((i : Int) + 1) (Option.some (s, i))
theorem BaW.after {w V w' : World} {t pm n base : Nat} {P : Nat → List UInt8} {K : Nat} {wr : Bool} {sv : Value} {S : List Sn} {R : Option (Sn × Nat)} (hb : Below w.heap.size w V) (h : BaW V w' t pm n base P K wr sv S R) : BaW w w' t pm n base P K wr sv S R := by
  cases R with
  | none => exact below_trans hb h
  | some x =>
    obtain ⟨sv', q, hq, hf⟩ := h
    exact ⟨sv', q, Nat.le_trans hb.size hq, hf.after hb⟩
theorem back1_any (w : World) (A B t pm n base : Nat) (i : Int) {P : Nat → List UInt8} {K : Nat} {wr : Bool} {S : List Sn} {R : Option (Sn × Nat)} (h : Tr sv w t pm n P K wr) (hs : Sv w base sv S pm) (hB : Blk w B #[.pointer (some ⟨t, 0, none⟩)] 24) (hA : Blk w A #[.int .i64 i] 3) (hR : BaK S i R) (hS : S.length ≤ 2000) (hbase : base ≤ w.heap.size) :
    Calls Tryz.prog 195 #[.pointer (some ⟨B, 0, none⟩), .pointer (some ⟨A, 0, none⟩)] w fun e w' => e = .returned (.int .i64 (baE R)) ∧ BaW w w' t pm n base P K wr sv S R := by
  cases hR with
  | none hi => exact back1_none w A B t pm n base i h hs hB hA hi
  | some hi => exact back1_e w A B t pm n base _ h hs hB hA hi hS hbase
set_option maxRecDepth 20000 in
theorem do_back (w : World) (A B t pm n base : Nat) (i : Int) {P : Nat → List UInt8} {K : Nat} {wr : Bool} {S : List Sn} {R : Option (Sn × Nat)} (h : Tr sv w t pm n P K wr) (hs : Sv w base sv S pm) (hB : Blk w B #[.pointer (some ⟨t, 0, none⟩)] 24) (hA : Blk w A #[.int .i64 i] 3) (hR : BaK S i R) (hS : S.length ≤ 2000) (hbase : base ≤ w.heap.size) :
    Calls Tryz.prog 56 #[.func (.func 54) #[.pointer (some ⟨t, 0, none⟩)] #[], .func (.func 195) #[] #[.pointer (some ⟨B, 0, none⟩), .pointer (some ⟨A, 0, none⟩)]] w fun e w' => e = .returned (.int .i64 (baE R)) ∧ BaW w w' t pm n base P K wr sv S R := by
  have HG := hide (goesOn_e w _ 0 h.goK)
  have HM := hide (fun V (hb : Below w.heap.size w V) => back1_any V A B t pm n base i (h.later hb) (hs.later hb) (hB.later hb) (hA.later hb) hR hS (Nat.le_trans hbase hb.size))
  clear h hs hB hA hR hS
  go_enter Tryz.func56, Tryz.ntmps56
  go_wp2_with (first
    | (go_at_call 54; (with_reducible refine Calls.mono HG.out ?_); rintro e w4 ⟨rfl, hb⟩; have HB4 := hide hb; clear hb)
    | (go_at_call 195; (with_reducible refine Calls.mono (HM.out _ HB4.out) ?_); rintro e w5 ⟨rfl, hf⟩; have HR := hide (hf.after HB4.out); clear hf))
  go_ret
  exact ⟨rfl, HR.out⟩
set_option maxRecDepth 20000 in
theorem back_e (w : World) (t pm n base : Nat) (i : Int) {P : Nat → List UInt8} {K : Nat} {wr : Bool} {S : List Sn} {R : Option (Sn × Nat)} (h : Tr sv w t pm n P K wr) (hs : Sv w base sv S pm) (hR : BaK S i R) (hS : S.length ≤ 2000) (hbase : base ≤ w.heap.size) :
    Calls Tryz.prog 111 #[.pointer (some ⟨t, 0, none⟩), .int .i64 i] w fun e w' => e = .returned (.int .i64 (baE R)) ∧ BaW w w' t pm n base P K wr sv S R := by
  have HB0 := hide (below_alloc w (.cells #[.pointer (some ⟨t, 0, none⟩)] 24))
  obtain ⟨w1, hw1⟩ : ∃ w1, w1 = w.alloc (.cells #[.pointer (some ⟨t, 0, none⟩)] 24) := ⟨_, rfl⟩
  rw [← hw1] at HB0
  have k1 : Blk w1 w.heap.size #[.pointer (some ⟨t, 0, none⟩)] 24 := by rw [hw1]; exact Blk.new _ _ _
  have hb2 := below_alloc w1 (.cells #[.int .i64 i] 3)
  have HB2 := hide (below_trans HB0.out hb2)
  have HD := hide (do_back _ w1.heap.size w.heap.size t pm n base i (h.later HB2.out) (hs.later HB2.out) (k1.later hb2) (Blk.new w1 #[.int .i64 i] 3) hR hS (Nat.le_trans hbase HB2.out.size))
  rw [hw1] at HD HB2
  rw [show (w.alloc (.cells #[.pointer (some ⟨t, 0, none⟩)] 24)).heap.size = w.heap.size + 1 by simp] at HD
  clear h hs hb2 k1 hw1
  go_enter Tryz.func111, Tryz.ntmps111
  go_wp2_with (first
    | (go_at_call 56; (with_reducible refine Calls.mono HD.out ?_); rintro e w4 ⟨rfl, hf⟩; have HR := hide (hf.after HB2.out); clear hf))
  go_ret
  exact ⟨rfl, HR.out⟩
end Go.Proofs.YthgclfhfipfknaaGreat

namespace Go.Proofs.YthgclfhfipfknaaGreat
variable {sv : Value}
open Go.ChangeShapes Go.WideShapes Go.ChangeAt Go.RowKit Go.Maps
set_option linter.unusedVariables false

/-- What Give comes to, over any pages. -/
def GvA (sv : Value) (w : World) (t pm n K : Nat) (e : Ending) (w' : World) : Prop := ∃ (E : Int) (P' : Nat → List UInt8) (K' : Nat), e = .returned (.int .i64 E) ∧ (E = 0 ∨ E = 2 ∨ E = 8) ∧ Tr sv w' t pm n P' K' true ∧ K' ≤ K + 3 ∧ Only [t, pm] w w'
theorem give_any (w : World) (t pm n : Nat) {P : Nat → List UInt8} {K : Nat} (h : Tr sv w t pm n P K true) (h1 : 1 ≤ n) (hK : K ≤ 99998) (k : Nat) : Calls Tryz.prog 42 #[.pointer (some ⟨t, 0, none⟩), .int .i64 (k : Int)] w fun e w' => GvA sv w t pm n K e w' := by
  by_cases hf : fok (P 1)
  · have hl : Ld sv w t pm n P K (linkV (P 1)) (rdN (P 1)) := ⟨h, h1, ⟨if_pos hf, if_pos hf⟩, linkV_lt _, fun i => numS_lt _⟩
    by_cases h2 : 2 ≤ k ∧ k ≤ n
    · exact (give_e w t pm n hl hK k h2.1 h2.2).mono fun e w' hh => ⟨0, _, _, hh.1, .inl rfl, hh.2.1, by have := lfK_le K (lfR P n k (linkV (P 1))); omega, hh.2.2⟩
    · exact (give_arg w t pm n hl (k : Int) (by unfold mbF; simp; omega)).mono fun e w' hh => ⟨2, P, K, hh.1, .inr (.inl rfl), h.later hh.2, by omega, Only.of_below hh.2⟩
  · have hfc : FcK w (some ⟨t, 0, none⟩) (rdV (P 1)) 8 := by
      have := FcK.on h.chK (FoK.page h h1)
      rw [show rdE (P 1) = 8 from if_neg hf] at this
      exact this
    exact (give_stop w _ _ 8 hfc (by decide) (k : Int)).mono fun e w' hh => ⟨8, P, K, hh.1, .inr (.inr rfl), h.later hh.2, by omega, Only.of_below hh.2⟩
theorem drop1_e (w : World) (B t pm n : Nat) {P : Nat → List UInt8} {K : Nat} (h : Tr sv w t pm n P K true) (h1 : 1 ≤ n) (hK : K ≤ 99998) (k : Nat) (hB : w.cell? ⟨B, 0, none⟩ = some (.pointer (some ⟨t, 0, none⟩))) : Calls Tryz.prog 41 #[.int .i64 (k : Int), .pointer (some ⟨B, 0, none⟩)] w fun e w' => GvA sv w t pm n K e w' := by
  have HG := hide (give_any w t pm n h h1 hK k)
  clear h
  go_enter Tryz.func41, Tryz.ntmps41
  go_wp2_with (first
    | (go_at_call 42; (with_reducible refine Calls.mono HG.out ?_); rintro e w4 ⟨E, P', K', rfl, hE, ht, hk, ho⟩; have HR := hide (show GvA sv w t pm n K (.returned (.int .i64 E)) w4 from ⟨E, P', K', rfl, hE, ht, hk, ho⟩); clear hE ht hk ho))
  go_ret
  exact HR.out
end Go.Proofs.YthgclfhfipfknaaGreat
