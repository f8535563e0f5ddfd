/- Package spill: the taker takes a page for a piece. -/
/- Package spill: the taker takes a further page. -/
import Derived.Test.YthgclfhfipfknaaGreatPPF
namespace Go.Proofs.YthgclfhfipfknaaGreat
variable {sv : Value}
open Go.ChangeShapes Go.WideShapes Go.ChangeAt Go.RowKit Go.Maps
set_option linter.unusedVariables false

def tkA (t f l : Nat) (p : ByteArray) : Array Value := #[.pointer (some ⟨t, 0, none⟩), .int .i64 (f : Int), .int .i64 (l : Int), .string p]
theorem ot_tk : Ot 95 := by unfold Ot; decide
theorem one_tk {w : World} {cb : Nat} {c : Array Value} (h : Blk w cb c 95) : ∀ b ∈ [cb], ∃ c ty, Blk w b c ty ∧ Ot ty := fun b hb => by
  have e : b = cb := by simpa using hb
  subst e
  exact ⟨_, _, h, ot_tk⟩
theorem only_tk {w a b : World} {t pm cb : Nat} (h1 : Only [t, pm] w a) (h2 : Only [cb] a b) : Only [t, pm, cb] w b := (h1.mono (fun j hj => by simp at hj; simp; omega)).trans (h2.mono (fun j hj => by simp at hj; simp [hj]))
theorem tk_set {w : World} {cb t l : Nat} {q : ByteArray} (h : Blk w cb (tkA t 0 l q) 95) (g : Nat) (p : ByteArray) : Blk (((w.setCell ⟨cb, 1, none⟩ (.int .i64 (g : Int))).setCell ⟨cb, 2, none⟩ (.int .i64 (g : Int))).setCell ⟨cb, 3, none⟩ (.string p)) cb (tkA t g g p) 95 ∧ Only [cb] w (((w.setCell ⟨cb, 1, none⟩ (.int .i64 (g : Int))).setCell ⟨cb, 2, none⟩ (.int .i64 (g : Int))).setCell ⟨cb, 3, none⟩ (.string p)) :=
  ⟨((h.set 1 (.int .i64 (g : Int))).set 2 (.int .i64 (g : Int))).set 3 (.string p), ((Only.setCell w ⟨cb, 1, none⟩ _).trans (Only.setCell _ ⟨cb, 2, none⟩ _)).trans (Only.setCell _ ⟨cb, 3, none⟩ _)⟩
theorem tk_set2 {w : World} {cb t f l : Nat} {q : ByteArray} (h : Blk w cb (tkA t f l q) 95) (g : Nat) (p : ByteArray) : Blk ((w.setCell ⟨cb, 2, none⟩ (.int .i64 (g : Int))).setCell ⟨cb, 3, none⟩ (.string p)) cb (tkA t f g p) 95 ∧ Only [cb] w ((w.setCell ⟨cb, 2, none⟩ (.int .i64 (g : Int))).setCell ⟨cb, 3, none⟩ (.string p)) :=
  ⟨(h.set 2 (.int .i64 (g : Int))).set 3 (.string p), (Only.setCell w ⟨cb, 2, none⟩ _).trans (Only.setCell _ ⟨cb, 3, none⟩ _)⟩
theorem only_tk2 {w a b c : World} {t pm cb : Nat} (h1 : Only [t, pm, cb] w a) (h2 : Below a.heap.size a b) (h3 : Only [t, pm] b c) : Only [t, pm, cb] w c := (h1.then_below h2).trans (h3.mono (fun j hj => by simp at hj; simp; omega))
set_option maxRecDepth 20000 in
set_option maxHeartbeats 2000000 in
theorem take_first (w : World) (cb t pm n : Nat) {P : Nat → List UInt8} {K : Nat} {F : List Nat} {N : Nat → Nat} (h : Sp sv w t pm n P K F N) (hK : K ≤ 90000) (hn : F = [] → n < 4096) (l : Nat) (q p : ByteArray) (hc : Blk w cb (tkA t 0 l q) 95) (h0 : 0 < p.size) (h1 : p.size ≤ 240) :
    Calls Tryz.prog 47 #[.pointer (some ⟨cb, 0, none⟩), .string p] w fun e w' => ∃ P', e = .returned (.int .i64 0) ∧ Sp sv w' t pm (n + (1 - F.length)) P' (K + 2) F.tail N ∧ ((∀ j, 2 ≤ j → j ≤ n → j ≠ tkAt n F 0 → P' j = P j) ∧ P' (tkAt n F 0) = chL p 0) ∧ Blk w' cb (tkA t (tkAt n F 0) (tkAt n F 0) p) 95 ∧ Only [t, pm, cb] w w' := by
  have HTk := hide (take_g w t pm n h (by omega) hn)
  obtain ⟨c0, c1, c2, c3⟩ := (show w.cell? ⟨cb, 0, none⟩ = some (.pointer (some ⟨t, 0, none⟩)) ∧ w.cell? ⟨cb, 1, none⟩ = some (.int .i64 0) ∧ w.cell? ⟨cb, 2, none⟩ = some (.int .i64 (l : Int)) ∧ w.cell? ⟨cb, 3, none⟩ = some (.string q) from ⟨hc.cell 0, hc.cell 1, hc.cell 2, hc.cell 3⟩)
  have hF := h.ch.all
  have one := h.ld.one
  have g2 : 2 ≤ tkAt n F 0 ∧ tkAt n F 0 ≤ n + (1 - F.length) ∧ tkAt n F 0 ∉ F.tail := by
    cases F with
    | nil => simp [tkAt]; omega
    | cons g G =>
      have := hF g (by simp)
      have hnd := List.nodup_cons.1 h.nd
      simp [tkAt]
      exact ⟨by omega, by omega, hnd.1⟩
  have HH := hide h
  have HC := hide hc
  generalize tkAt n F 0 = g at *
  have HG := hide g2
  have hPo := hide (fun V => pageOf_e V p 0 h0 h1 (by omega))
  have HL := hide (chL_length p 0 h1)
  have HPt := hide (fun V P' (hs : Sp sv V t pm (n + (1 - F.length)) P' (K + 1) F.tail N) => put_g V t pm _ g hs (by omega) HG.out.1 HG.out.2.1 HG.out.2.2 (chL p 0) HL.out)
  have HUp := hide (fun P' => And.intro (fun j (hj : j ≠ g) => upP_off P' (chL p 0) hj) (upP_at P' g (chL p 0)))
  clear h hc hF one g2 h0 h1
  generalize chL p 0 = lp at *
  go_enter Tryz.func47, Tryz.ntmps47
  go_upto_region 10 with (first
    | (go_at_call 119; (with_reducible refine Calls.mono HTk.out ?_); rintro e w4 ⟨P4, rfl, hs4, hp4, ho4⟩; have k4 := HH.out.ld.tr.apart ho4 HC.out (by decide); have c41 : w4.cell? ⟨cb, 1, none⟩ = some (.int .i64 0) := k4.cell 1; have c42 : w4.cell? ⟨cb, 2, none⟩ = some (.int .i64 (l : Int)) := k4.cell 2; have c43 : w4.cell? ⟨cb, 3, none⟩ = some (.string q) := k4.cell 3; have f41 := k4.frozen 1; have f42 := k4.frozen 2; have f43 := k4.frozen 3; have HS4 := hide hs4; have HP4 := hide hp4; have HO4 := hide ho4; have HK4 := hide k4; clear hs4 hp4 ho4 k4))
  obtain ⟨k6, o6⟩ := tk_set HK4.out g p
  have hs6 := HS4.out.onlyX o6 (one_tk HK4.out)
  have HO6 := hide (only_tk HO4.out o6)
  clear o6 c41 c42 c43 f41 f42 f43 c0 c1 c2 c3
  generalize ((w4.setCell ⟨cb, 1, none⟩ (.int .i64 (g : Int))).setCell ⟨cb, 2, none⟩ (.int .i64 (g : Int))).setCell ⟨cb, 3, none⟩ (.string p) = W6 at *
  have HC6 : Hid (W6.drew.cell? ⟨cb, 0, none⟩ = some (.pointer (some ⟨t, 0, none⟩))) := k6.cell 0
  have HK6 := hide (k6.later (below_drew W6))
  have HS6 := hide (hs6.later (below_drew W6))
  have HO6d := hide (HO6.out.then_below (below_drew W6))
  clear k6 hs6
  go_region_held3 (fun V => V.cell? ⟨cb, 0, none⟩ = some (.pointer (some ⟨t, 0, none⟩))) (first | exact HC6.out | exact HC7.out) (first
    | (go_at_call 120; (with_reducible refine Calls.mono (hPo.out _) ?_); rintro e w7 ⟨rfl, hb⟩; have HC7 := hide (cell_later hb HC6.out); have HS7 := hide (HS6.out.later hb); have HK7 := hide (HK6.out.later hb); have HB7 := hide hb; clear hb)
    | (go_at_call 20; (with_reducible refine Calls.mono (HPt.out _ _ HS7.out) ?_); rintro e w8 ⟨rfl, hs8, ho8⟩; have HC7 := hide (show w8.cell? ⟨cb, 0, none⟩ = some (.pointer (some ⟨t, 0, none⟩)) from (HS7.out.ld.tr.apart ho8 HK7.out (by decide)).cell 0); have HK8 := hide (HS7.out.ld.tr.apart ho8 HK7.out (by decide)); have HS8 := hide hs8; have HO8 := hide (only_tk2 HO6d.out HB7.out ho8); clear hs8 ho8))
  all_goals
    go_wp2
    go_ret
    exact ⟨_, rfl, HS8.out, ⟨fun j h2 hn hj => ((HUp.out P4).1 j hj).trans (HP4.out j h2 hn), (HUp.out P4).2⟩, HK8.out, HO8.out⟩
end Go.Proofs.YthgclfhfipfknaaGreat

namespace Go.Proofs.YthgclfhfipfknaaGreat
variable {sv : Value}
open Go.ChangeShapes Go.WideShapes Go.ChangeAt Go.RowKit Go.Maps
set_option linter.unusedVariables false

theorem only_tk3 {w a b c : World} {t pm cb : Nat} (h1 : Only [t, pm, cb] w a) (h2 : Only [cb] a b) (h3 : Below b.heap.size b c) : Only [t, pm, cb] w c := (h1.trans (h2.mono (fun j hj => by simp at hj; simp [hj]))).then_below h3
set_option maxRecDepth 20000 in
set_option maxHeartbeats 4000000 in
theorem take_next (w : World) (cb t pm n : Nat) {P : Nat → List UInt8} {K : Nat} {F : List Nat} {N : Nat → Nat} (h : Sp sv w t pm n P K F N) (hK : K ≤ 90000) (hn : F = [] → n < 4096) (f l : Nat) (q p : ByteArray) (hc : Blk w cb (tkA t f l q) 95) (hf : f ≠ 0) (hl2 : 2 ≤ l) (hln : l ≤ n) (hlF : l ∉ F) (h0 : 0 < p.size) (h1 : p.size ≤ 240) (q0 : 0 < q.size) (q1 : q.size ≤ 240) :
    Calls Tryz.prog 47 #[.pointer (some ⟨cb, 0, none⟩), .string p] w fun e w' => ∃ P', e = .returned (.int .i64 0) ∧ Sp sv w' t pm (n + (1 - F.length)) P' (K + 3) F.tail N ∧ ((∀ j, 2 ≤ j → j ≤ n → j ≠ tkAt n F 0 → j ≠ l → P' j = P j) ∧ P' l = chL q (tkAt n F 0) ∧ P' (tkAt n F 0) = chL p 0) ∧ Blk w' cb (tkA t f (tkAt n F 0) p) 95 ∧ Only [t, pm, cb] w w' := by
  have HTk := hide (take_g w t pm n h (by omega) hn)
  obtain ⟨c0, c1, c2, c3⟩ := (show w.cell? ⟨cb, 0, none⟩ = some (.pointer (some ⟨t, 0, none⟩)) ∧ w.cell? ⟨cb, 1, none⟩ = some (.int .i64 (f : Int)) ∧ w.cell? ⟨cb, 2, none⟩ = some (.int .i64 (l : Int)) ∧ w.cell? ⟨cb, 3, none⟩ = some (.string q) from ⟨hc.cell 0, hc.cell 1, hc.cell 2, hc.cell 3⟩)
  have hF := h.ch.all
  have few := h.ld.tr.few
  have one := h.ld.one
  have g2 : (2 ≤ tkAt n F 0 ∧ tkAt n F 0 ≤ n + (1 - F.length) ∧ tkAt n F 0 ∉ F.tail) ∧ tkAt n F 0 ≠ l ∧ tkAt n F 0 < 4294967296 ∧ l ∉ F.tail := by
    cases F with
    | nil => simp [tkAt]; omega
    | cons g G =>
      have := hF g (by simp)
      have hnd := List.nodup_cons.1 h.nd
      simp at hlF
      simp [tkAt]
      exact ⟨⟨by omega, by omega, hnd.1⟩, fun e => hlF.1 e.symm, by omega, hlF.2⟩
  have HH := hide h
  have HC := hide hc
  generalize tkAt n F 0 = g at *
  obtain ⟨g2, ngl, g4, lF⟩ := g2
  have HG := hide g2
  have hPo := hide (fun V => pageOf_e V p 0 h0 h1 (by omega))
  have hPq := hide (fun V => pageOf_e V q g q0 q1 g4)
  have HL := hide (chL_length p 0 h1)
  have HLq := hide (chL_length q g q1)
  have HPt := hide (fun V P' (hs : Sp sv V t pm (n + (1 - F.length)) P' (K + 1 + 1) F.tail N) => put_g V t pm _ g hs (by omega) HG.out.1 HG.out.2.1 HG.out.2.2 (chL p 0) HL.out)
  have HPl := hide (fun V P' (hs : Sp sv V t pm (n + (1 - F.length)) P' (K + 1) F.tail N) => put_g V t pm _ l hs (by omega) hl2 (by omega) lF (chL q g) HLq.out)
  have HUp := hide (fun P' => (show (∀ j, j ≠ g → j ≠ l → upP (upP P' l (chL q g)) g (chL p 0) j = P' j) ∧ upP (upP P' l (chL q g)) g (chL p 0) l = chL q g ∧ upP (upP P' l (chL q g)) g (chL p 0) g = chL p 0 from ⟨fun j hj hj2 => by rw [upP_off _ _ hj, upP_off _ _ hj2], by rw [upP_off _ _ (Ne.symm ngl), upP_at], upP_at _ _ _⟩))
  have f0 : ((f : Int) == 0) = false := by simpa using hf
  clear h hc hF one few g2 h0 h1 q0 q1 hf hl2 hln hlF ngl g4 lF
  generalize chL p 0 = lp at *
  generalize chL q g = lq at *
  go_enter Tryz.func47, Tryz.ntmps47
  go_upto_region 6 with (first
    | (go_at_call 119; (with_reducible refine Calls.mono HTk.out ?_); rintro e w4 ⟨P4, rfl, hs4, hp4, ho4⟩; have k4 := HH.out.ld.tr.apart ho4 HC.out (by decide); have c41 : w4.cell? ⟨cb, 1, none⟩ = some (.int .i64 (f : Int)) := k4.cell 1; have HS4 := hide (hs4.later (below_drew w4)); have HP4 := hide hp4; have HO4 := hide ((only_tk ho4 (Only.refl [cb] w4)).then_below (below_drew w4)); have HK4 := hide (k4.later (below_drew w4)); clear hs4 hp4 ho4 k4))
  have HC4 : Hid (w4.drew.cell? ⟨cb, 0, none⟩ = some (.pointer (some ⟨t, 0, none⟩)) ∧ w4.drew.cell? ⟨cb, 2, none⟩ = some (.int .i64 (l : Int)) ∧ w4.drew.cell? ⟨cb, 3, none⟩ = some (.string q)) := ⟨HK4.out.cell 0, HK4.out.cell 2, HK4.out.cell 3⟩
  clear c41 c0 c1 c2 c3
  go_region_held3 (fun V => V.cell? ⟨cb, 0, none⟩ = some (.pointer (some ⟨t, 0, none⟩)) ∧ V.cell? ⟨cb, 2, none⟩ = some (.int .i64 (l : Int)) ∧ V.cell? ⟨cb, 3, none⟩ = some (.string q)) (first | exact HC4.out | exact HC7.out) (first
    | (go_at_call 120; (with_reducible refine Calls.mono (hPq.out _) ?_); rintro e w7 ⟨rfl, hb⟩; have HS7 := hide (HS4.out.later hb); have HK7 := hide (HK4.out.later hb); have HC7 := hide (And.intro (HK7.out.cell 0) (And.intro (HK7.out.cell 2) (HK7.out.cell 3))); have HB7 := hide hb; clear hb)
    | (go_at_call 20; (with_reducible refine Calls.mono (HPl.out _ _ HS7.out) ?_); rintro e w8 ⟨rfl, hs8, ho8⟩; have HK8 := hide (HS7.out.ld.tr.apart ho8 HK7.out (by decide)); have HC7 := hide (And.intro (HK8.out.cell 0) (And.intro (HK8.out.cell 2) (HK8.out.cell 3))); have HS8 := hide hs8; have HO8 := hide (only_tk2 HO4.out HB7.out ho8); clear hs8 ho8))
  all_goals
    have c82 : w8.cell? ⟨cb, 2, none⟩ = some (.int .i64 (l : Int)) := HK8.out.cell 2
    have c83 : w8.cell? ⟨cb, 3, none⟩ = some (.string q) := HK8.out.cell 3
    have f82 := HK8.out.frozen 2
    have f83 := HK8.out.frozen 3
    go_upto_region 10 with fail
    obtain ⟨k6, o6⟩ := tk_set2 HK8.out g p
    have hs6 := HS8.out.onlyX o6 (one_tk HK8.out)
    have HO6 := hide (only_tk3 HO8.out o6 (below_drew _))
    clear o6 c82 c83 f82 f83
    generalize (w8.setCell ⟨cb, 2, none⟩ (.int .i64 (g : Int))).setCell ⟨cb, 3, none⟩ (.string p) = W6 at *
    have HC6 : Hid (W6.drew.cell? ⟨cb, 0, none⟩ = some (.pointer (some ⟨t, 0, none⟩))) := k6.cell 0
    have HK6 := hide (k6.later (below_drew W6))
    have HS6 := hide (hs6.later (below_drew W6))
    clear k6 hs6
    go_region_held3 (fun V => V.cell? ⟨cb, 0, none⟩ = some (.pointer (some ⟨t, 0, none⟩))) (first | exact HC6.out | exact HC9.out) (first
      | (go_at_call 120; (with_reducible refine Calls.mono (hPo.out _) ?_); rintro e w9 ⟨rfl, hb⟩; have HC9 := hide (cell_later hb HC6.out); have HS9 := hide (HS6.out.later hb); have HK9 := hide (HK6.out.later hb); have HB9 := hide hb; clear hb)
      | (go_at_call 20; (with_reducible refine Calls.mono (HPt.out _ _ HS9.out) ?_); rintro e w10 ⟨rfl, hs10, ho10⟩; have HK10 := hide (HS9.out.ld.tr.apart ho10 HK9.out (by decide)); have HC9 := hide (show w10.cell? ⟨cb, 0, none⟩ = some (.pointer (some ⟨t, 0, none⟩)) from HK10.out.cell 0); have HS10 := hide hs10; have HO10 := hide (only_tk2 HO6.out HB9.out ho10); clear hs10 ho10))
    all_goals
      go_wp2
      go_ret
      exact ⟨_, rfl, HS10.out, ⟨fun j h2 hn hj hjl => ((HUp.out P4).1 j hj hjl).trans (HP4.out j h2 hn), (HUp.out P4).2⟩, HK10.out, HO10.out⟩
end Go.Proofs.YthgclfhfipfknaaGreat
