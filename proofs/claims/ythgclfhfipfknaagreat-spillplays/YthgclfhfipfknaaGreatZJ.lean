/- Savepoints: Back and Release. -/
/- Savepoints: Back. -/
import Derived.Test.YthgclfhfipfknaaGreatZH
import Derived.Test.YthgclfhfipfknaaGreatZF
namespace Go.Proofs.YthgclfhfipfknaaGreat
variable {sv : Value}
open Go.ChangeShapes Go.WideShapes Go.ChangeAt Go.RowKit Go.Maps
set_option linter.unusedVariables false

def hsB (i : Int) (m : Nat) : Bool := decide (1 ≤ i ∧ i ≤ (m : Int))
set_option maxRecDepth 20000 in
theorem hasSave_e (w : World) (t pm n base : Nat) (i : Int) {P : Nat → List UInt8} {K : Nat} {wr : Bool} {S : List Sn} (h : Tr sv w t pm n P K wr) (hs : Sv w base sv S pm) :
    Calls Tryz.prog 193 #[.pointer (some ⟨t, 0, none⟩), .int .i64 i] w fun e w' => e = .returned (.bool (hsB i S.length)) ∧ w = w' := by
  have c5 := h.c5
  obtain ⟨p, cap, rfl, h1, h2, h3⟩ := own_formC hs.row
  clear h hs h1 h2 h3
  by_cases ha : 1 ≤ i
  · by_cases hb : i ≤ (S.length : Int)
    · have hr : hsB i S.length = true := decide_eq_true ⟨ha, hb⟩
      rw [hr]
      clear hr
      go_enter Tryz.func193, Tryz.ntmps193
      go_wp2_with fail
      go_ret
      exact ⟨rfl, rfl⟩
    · have hr : hsB i S.length = false := decide_eq_false (fun h => hb h.2)
      rw [hr]
      clear hr
      go_enter Tryz.func193, Tryz.ntmps193
      go_wp2_with fail
      go_ret
      exact ⟨rfl, rfl⟩
  · have hr : hsB i S.length = false := decide_eq_false (fun h => ha h.1)
    rw [hr]
    clear hr
    go_enter Tryz.func193, Tryz.ntmps193
    go_wp2_with fail
    go_ret
    exact ⟨rfl, rfl⟩
theorem FgW.after {w V w' : World} {t pm n base i : Nat} {P : Nat → List UInt8} {K : Nat} {wr : Bool} {sv sv' : Value} {S : List Sn} (hb : Below w.heap.size w V) (h : FgW V w' t pm n base P K wr sv sv' S i) : FgW w w' t pm n base P K wr sv sv' S i := ⟨h.tr, h.ss, Only.after_below hb h.on⟩
set_option maxRecDepth 20000 in
theorem release1_e (w : World) (A B t pm n base i : Nat) {P : Nat → List UInt8} {K : Nat} {wr : Bool} {S : List Sn} (h : Tr sv w t pm n P K wr) (hs : Sv w base sv S pm) (hB : Blk w B #[.pointer (some ⟨t, 0, none⟩)] 24) (hA : Blk w A #[.int .i64 (i : Int)] 3) (h1 : 1 ≤ i) (h2 : i ≤ S.length) (hS : S.length ≤ 2000) :
    Calls Tryz.prog 192 #[.pointer (some ⟨B, 0, none⟩), .pointer (some ⟨A, 0, none⟩)] w fun e w' => e = .returned (.int .i64 0) ∧ ∃ sv', FgW w w' t pm n base P K wr sv sv' S (i - 1) := by
  have cB : w.cell? ⟨B, 0, none⟩ = some (.pointer (some ⟨t, 0, none⟩)) := hB.cell 0
  have cA : w.cell? ⟨A, 0, none⟩ = some (.int .i64 (i : Int)) := hA.cell 0
  have HH := hide (hasSave_e w t pm n base (i : Int) h hs)
  rw [show hsB (i : Int) S.length = true from decide_eq_true (by omega)] at HH
  have HF := hide (forget_e w t pm n base (i - 1) h hs (by omega) hS)
  have hw1 : IntKind.i64.wrap ((i : Int) - 1) = ((i - 1 : Nat) : Int) := by rw [IntKind.wrap_i64]; omega
  clear h hs hB hA h1 h2 hS
  generalize i - 1 = k at *
  go_enter Tryz.func192, Tryz.ntmps192
  go_wp2_with (first
    | (go_at_call 193; (with_reducible refine Calls.mono HH.out ?_); rintro e w4 ⟨rfl, rfl⟩)
    | (go_at_call 194; (with_reducible refine Calls.mono HF.out ?_); rintro e w5 ⟨rfl, hf⟩; have HF5 := hide hf; clear hf))
  go_ret
  exact ⟨rfl, HF5.out⟩
set_option maxRecDepth 20000 in
theorem do_release (w : World) (A B t pm n base i : Nat) {P : Nat → List UInt8} {K : Nat} {wr : Bool} {S : List Sn} (h : Tr sv w t pm n P K wr) (hs : Sv w base sv S pm) (hB : Blk w B #[.pointer (some ⟨t, 0, none⟩)] 24) (hA : Blk w A #[.int .i64 (i : Int)] 3) (h1 : 1 ≤ i) (h2 : i ≤ S.length) (hS : S.length ≤ 2000) :
    Calls Tryz.prog 56 #[.func (.func 54) #[.pointer (some ⟨t, 0, none⟩)] #[], .func (.func 192) #[] #[.pointer (some ⟨B, 0, none⟩), .pointer (some ⟨A, 0, none⟩)]] w fun e w' => e = .returned (.int .i64 0) ∧ ∃ sv', FgW w w' t pm n base P K wr sv sv' S (i - 1) := by
  have HG := hide (goesOn_e w _ 0 h.goK)
  have HM := hide (fun V (hb : Below w.heap.size w V) => release1_e V A B t pm n base i (h.later hb) (hs.later hb) (hB.later hb) (hA.later hb) h1 h2 hS)
  clear h hs hB hA h1 h2 hS
  go_enter Tryz.func56, Tryz.ntmps56
  go_wp2_with (first
    | (go_at_call 54; (with_reducible refine Calls.mono HG.out ?_); rintro e w4 ⟨rfl, hb⟩; have HB4 := hide hb; clear hb)
    | (go_at_call 192; (with_reducible refine Calls.mono (HM.out _ HB4.out) ?_); rintro e w5 ⟨rfl, sv5, hf⟩; have HR := hide (hf.after HB4.out); clear hf))
  go_ret
  exact ⟨rfl, _, HR.out⟩
set_option maxRecDepth 20000 in
theorem release_e (w : World) (t pm n base i : Nat) {P : Nat → List UInt8} {K : Nat} {wr : Bool} {S : List Sn} (h : Tr sv w t pm n P K wr) (hs : Sv w base sv S pm) (h1 : 1 ≤ i) (h2 : i ≤ S.length) (hS : S.length ≤ 2000) :
    Calls Tryz.prog 110 #[.pointer (some ⟨t, 0, none⟩), .int .i64 (i : Int)] w fun e w' => e = .returned (.int .i64 0) ∧ ∃ sv', FgW w w' t pm n base P K wr sv sv' S (i - 1) := by
  have HB0 := hide (below_alloc w (.cells #[.pointer (some ⟨t, 0, none⟩)] 24))
  obtain ⟨w1, hw1⟩ : ∃ w1, w1 = w.alloc (.cells #[.pointer (some ⟨t, 0, none⟩)] 24) := ⟨_, rfl⟩
  rw [← hw1] at HB0
  have k1 : Blk w1 w.heap.size #[.pointer (some ⟨t, 0, none⟩)] 24 := by rw [hw1]; exact Blk.new _ _ _
  have hb2 := below_alloc w1 (.cells #[.int .i64 (i : Int)] 3)
  have HB2 := hide (below_trans HB0.out hb2)
  have HD := hide (do_release _ w1.heap.size w.heap.size t pm n base i (h.later HB2.out) (hs.later HB2.out) (k1.later hb2) (Blk.new w1 #[.int .i64 (i : Int)] 3) h1 h2 hS)
  rw [hw1] at HD HB2
  rw [show (w.alloc (.cells #[.pointer (some ⟨t, 0, none⟩)] 24)).heap.size = w.heap.size + 1 by simp] at HD
  clear h hs hb2 k1 hw1
  go_enter Tryz.func110, Tryz.ntmps110
  go_wp2_with (first
    | (go_at_call 56; (with_reducible refine Calls.mono HD.out ?_); rintro e w4 ⟨rfl, sv4, hf⟩; have HR := hide (hf.after HB2.out); clear hf))
  go_ret
  exact ⟨rfl, _, HR.out⟩
end Go.Proofs.YthgclfhfipfknaaGreat

namespace Go.Proofs.YthgclfhfipfknaaGreat
variable {sv : Value}
open Go.ChangeShapes Go.WideShapes Go.ChangeAt Go.RowKit Go.Maps
set_option linter.unusedVariables false

/-- What a transaction has is put in the place of what it had. -/
theorem back_store {w w3 : World} {t pm n base q n' K' : Nat} {P P' : Nat → List UInt8} {K : Nat} {wr : Bool} {S : List Sn} (h : Tr sv w t pm n P K wr) (hs : Sv w base sv S pm) (hb : Below w.heap.size w w3) (hq : MpI w3 q K' n' P') (hqn : w.heap.size ≤ q) (hl : ∀ k, (P' k).length = 256) (hn : n' ≤ 4096) :
    Tr sv ((w3.setCell ⟨t, 3, none⟩ (.int .i64 (n' : Int))).setCell ⟨t, 4, none⟩ (.map (some q))) t q n' P' K' wr ∧ Sv ((w3.setCell ⟨t, 3, none⟩ (.int .i64 (n' : Int))).setCell ⟨t, 4, none⟩ (.map (some q))) base sv S q ∧ Only [t] w ((w3.setCell ⟨t, 3, none⟩ (.int .i64 (n' : Int))).setCell ⟨t, 4, none⟩ (.map (some q))) := by
  have hs3 := hs.later hb
  obtain ⟨⟨j, d, mb, l, room, L, cn, f1, f2, f3⟩, f4, f5, f6⟩ := h
  have g1 := f1.later hb
  have g2 : Blk w3 t (txc j cn (n : Int) (some pm) sv wr false) 122 := Blk.later f2 hb
  have ho : Only [t] w3 ((w3.setCell ⟨t, 3, none⟩ (.int .i64 (n' : Int))).setCell ⟨t, 4, none⟩ (.map (some q))) := (Only.setCell w3 ⟨t, 3, none⟩ (.int .i64 (n' : Int))).trans (Only.setCell _ ⟨t, 4, none⟩ (.map (some q)))
  have hmap : ∀ {p K n : Nat} {P : Nat → List UInt8}, MpI w3 p K n P → MpI ((w3.setCell ⟨t, 3, none⟩ (.int .i64 (n' : Int))).setCell ⟨t, 4, none⟩ (.map (some q))) p K n P := fun {p K n P} hm => by
    obtain ⟨es, cl, he⟩ := hm.obj
    have := blk_map g2 he
    exact hm.only ho (by simp; omega)
  have hmb : mb < w.heap.size := (Array.getElem?_eq_some_iff.1 f1.de.mp).1
  refine ⟨⟨⟨j, d, mb, l, room, L, cn, g1.tx g2 ho, Blk.set (Blk.set g2 3 _) 4 _, by omega⟩, hmap hq, hl, hn⟩, ⟨?_, ?_⟩, Only.after_below hb ho⟩
  · refine own_only2 hs3.row ho (fun k hk => ?_)
    obtain ⟨_, c, hg⟩ := ownC_blk hs3.row hk
    have := blk_ne hg g2 (by decide)
    simpa using this
  · intro s hsm
    obtain ⟨e1, e2, e3, e4⟩ := hs.each s hsm
    obtain ⟨es, cl, he⟩ := e1.obj
    have hlt : s.pm < w.heap.size := (Array.getElem?_eq_some_iff.1 he).1
    exact ⟨hmap (hs3.each s hsm).1, e2, by omega, e4⟩
theorem svL_at {S : List Sn} {i : Nat} {s : Sn} (h : S[i]? = some s) : (svL S)[i * 2]? = some (.int .i64 (s.n : Int)) ∧ (svL S)[i * 2 + 1]? = some (.map (some s.pm)) := by
  induction S generalizing i with
  | nil => simp at h
  | cons a S ih =>
    cases i with
    | zero =>
      simp at h
      subst h
      simp [svL, snC]
    | succ i =>
      simp only [List.getElem?_cons_succ] at h
      have := ih h
      rw [show (i + 1) * 2 = i * 2 + 1 + 1 by omega]
      simpa [svL, snC] using this
theorem row_at {w : World} {base g cap : Nat} {S : List Sn} (h : w.ownsRow base 117 2 (.slice (some ⟨g, 0, none⟩) S.length cap) S.length (svL S)) {i : Nat} {s : Sn} (hi : S[i]? = some s) : w.cell? ⟨g, i * 2, none⟩ = some (.int .i64 (s.n : Int)) ∧ w.cell? ⟨g, i * 2 + 1, none⟩ = some (.map (some s.pm)) := by
  have hlt : i < S.length := (List.getElem?_eq_some_iff.1 hi).1
  exact ⟨(h.cellAt (i * 2) (by omega)).trans (svL_at hi).1, (h.cellAt (i * 2 + 1) (by omega)).trans (svL_at hi).2⟩
/-- What the walk of Back looks at. -/
structure BkF (V : World) (A B t g i : Nat) (sv : Value) (s : Sn) : Prop where
  cB : V.cell? ⟨B, 0, none⟩ = some (.pointer (some ⟨t, 0, none⟩))
  cA : V.cell? ⟨A, 0, none⟩ = some (.int .i64 ((i : Int) + 1))
  c5 : V.cell? ⟨t, 5, none⟩ = some sv
  r0 : V.cell? ⟨g, i * 2, none⟩ = some (.int .i64 (s.n : Int))
  r1 : V.cell? ⟨g, i * 2 + 1, none⟩ = some (.map (some s.pm))
theorem bkf_mk {w : World} {A B t pm n base g cap i : Nat} {P : Nat → List UInt8} {K : Nat} {wr : Bool} {S : List Sn} {s : Sn} (h : Tr (.slice (some ⟨g, 0, none⟩) S.length cap) w t pm n P K wr) (hs : Sv w base (.slice (some ⟨g, 0, none⟩) S.length cap) S pm) (hB : Blk w B #[.pointer (some ⟨t, 0, none⟩)] 24) (hA : Blk w A #[.int .i64 ((i : Int) + 1)] 3) (hi : S[i]? = some s) : BkF w A B t g i (.slice (some ⟨g, 0, none⟩) S.length cap) s :=
  ⟨hB.cell 0, hA.cell 0, h.c5, (row_at hs.row hi).1, (row_at hs.row hi).2⟩
end Go.Proofs.YthgclfhfipfknaaGreat
