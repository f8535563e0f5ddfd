/- Package spill: Put of a long payload. -/
import Derived.Test.YthgclfhfipfknaaGreatPPK
namespace Go.Proofs.YthgclfhfipfknaaGreat
variable {sv : Value}
open Go.ChangeShapes Go.WideShapes Go.ChangeAt Go.RowKit Go.Maps Go.Shelf
set_option linter.unusedVariables false

theorem Kb.then_below {B0 : Nat} {k : TypeId} {w a b : World} (h : Kb B0 k w a) (hb : Below a.heap.size a b) (h0 : B0 ≤ w.heap.size) : Kb B0 k w b := h.trans (Kb.of_below hb (Nat.le_trans h0 h.bel.size))
theorem Kb.then_new {B0 : Nat} {k : TypeId} {w a b : World} {g : Nat} (h : Kb B0 k w a) (ho : Only [g] a b) (hg : w.heap.size ≤ g) (h0 : B0 ≤ w.heap.size) : Kb B0 k w b :=
  ⟨h.bel.trans (ho.below (Nat.le_trans h0 h.bel.size) (fun j hj => by simp at hj; omega)), fun b c ty hb n1 n2 n3 => (h.kp _ _ _ hb n1 n2 n3).only ho (by have := hb.lt; simp; omega)⟩
theorem Sv.onlyX {w V : World} {base pm g : Nat} {c : Array Value} {ty : TypeId} (h : Sv w base sv [] pm) (hg : Blk w g c ty) (ht : ty ≠ 117) (ho : Only [g] w V) : Sv V base sv [] pm :=
  h.only ho (fun g' e hm => by
    have e1 : g' = g := by simpa using hm
    subst e1
    obtain ⟨_, c', hb⟩ := ownC_blk h.row e
    exact blk_ne hb hg (Ne.symm ht) rfl) (fun s hs => by cases hs)
/-- What Put of a payload with a chain leaves; r is what the chain holds. -/
def PtE (w w' : World) (B0 t pm n base : Nat) (P : Nat → List UInt8) (K : Nat) (F : List Nat) (N : Nat → Nat) (r : ByteArray) : Prop := ∃ sv' P' K', Sp sv' w' t pm (n + (pcN r 240 - F.length)) P' K' (F.drop (pcN r 240)) N ∧ K' ≤ K + 3 * pcN r 240 ∧ (∀ i, 2 ≤ i → i ≤ n → i ∉ tkL n F (pcN r 240) → P' i = P i) ∧ Cn P' (n + (pcN r 240 - F.length)) (tkAt n F 0) r.data.toList (tkL n F (pcN r 240)) ∧ Sv w' base sv' [] pm ∧ Kb B0 95 w w'
theorem pcL_len (r : ByteArray) (z : Nat) : (pcL r z).length = pcN r z := by simp [pcL]
theorem tks_end {W : World} {t pm n cb : Nat} {P : Nat → List UInt8} {K : Nat} {F : List Nat} {N : Nat → Nat} {r : ByteArray} (h : TkS sv t pm n P K F N cb (pcL r 240) W) (hF : ∀ g ∈ F, 2 ≤ g ∧ g ≤ n) (h1 : 1 ≤ n) (h0 : 0 < r.size) :
    (∃ P' K', Sp sv W t pm (n + (pcN r 240 - F.length)) P' K' (F.drop (pcN r 240)) N ∧ K' ≤ K + 3 * pcN r 240 ∧ (∀ i, 2 ≤ i → i ≤ n → i ∉ tkL n F (pcN r 240) → P' i = P i) ∧ Cn P' (n + (pcN r 240 - F.length)) (tkAt n F 0) r.data.toList (tkL n F (pcN r 240))) ∧ ∃ l q, Blk W cb (tkA t (tkAt n F 0) l q) 95 := by
  obtain ⟨_, ⟨P', K', h2, h3, h4, h5⟩, f, l, q, h6, _, h7⟩ := h
  have hN : 0 < pcN r 240 := (pcN_lt r 240 0 (by omega)).2 (by omega)
  rw [pcL_len] at h2 h3 h4 h5 h7
  obtain ⟨rfl, _, _⟩ := h7 hN
  refine ⟨⟨P', K', h2, h3, h4, ?_⟩, l, q, h6⟩
  have hc := cn_of (P := P') (s := r) hF h1 rfl rfl h2.ld.tr.few (fun k hk => ?_) (pcN r 240) 0 (by omega)
  · rw [Nat.mul_zero, List.drop_zero, show nxP n F (pcN r 240) 0 = tkAt n F 0 by unfold nxP; rw [if_pos hN]] at hc
    rw [tkL, List.range_eq_range']
    exact hc
  · rw [h5 k hk]
    congr 1
    simp [pcL, List.getD, hk]
theorem pte_mk {w w8 w9 W10 w11 : World} {B0 t pm n base cb s7 l : Nat} {c7 c7' : Array Value} {q : ByteArray} {P : Nat → List UInt8} {K : Nat} {F : List Nat} {N : Nat → Nat} {r : ByteArray} (hw : Below w.heap.size w w8) (h : TkE w8 w9 B0 t pm n base P K F N cb (pcL r 240)) (hF : ∀ g ∈ F, 2 ≤ g ∧ g ≤ n) (h1 : 1 ≤ n) (h0 : 0 < r.size) (hB0 : B0 ≤ w.heap.size) (h7 : Blk w9 s7 c7 90) (hs7 : w.heap.size ≤ s7) (ho : Only [s7] w9 W10) (hb : Below W10.heap.size W10 w11) : PtE w w11 B0 t pm n base P K F N r := by
  obtain ⟨sv', g1, g2, g3⟩ := h
  obtain ⟨⟨P', K', h2, h3, h4, h5⟩, _⟩ := tks_end g1 hF h1 h0
  have e7 : ∀ b ∈ [s7], ∃ c ty, Blk w9 b c ty ∧ Ot ty := fun b hb => by
    have e : b = s7 := by simpa using hb
    subst e
    exact ⟨_, _, h7, by unfold Ot; decide⟩
  exact ⟨sv', P', K', (h2.onlyX ho e7).later hb, h3, h4, h5, (g2.onlyX h7 (by decide) ho).later hb, (((Kb.of_below hw hB0).trans g3).then_new ho hs7 hB0).then_below hb hB0⟩
theorem infoT : (Tryz.prog.info? 95).map (·.size) = some 4 := by kernel_rfl
theorem sizeTk (t f l : Nat) (q : ByteArray) : (Tryz.prog.info? 95).map (·.size) = some (tkA t f l q).size := infoT
theorem tk_one (t f l : Nat) (q : ByteArray) : (tkA t f l q).all (·.oneCell') = true := all_oneCell_toArray (cs := [Value.pointer (some ⟨t, 0, none⟩), .int .i64 (f : Int), .int .i64 (l : Int), .string q]) (by intro v hv; simp at hv; rcases hv with rfl | rfl | rfl | rfl <;> rfl)
theorem pc_new0 {w w3 : World} {p : ByteArray} {z : Int} (h : w3 = (w.alloc (.cells #[.string p] 9)).alloc (.cells #[.int .i64 z] 3)) : Blk w3 w.heap.size #[.string p] 9 ∧ Blk w3 (w.heap.size + 1) #[.int .i64 z] 3 ∧ Below w.heap.size w w3 := by
  have e1 : (w.alloc (.cells #[.string p] 9)).heap.size = w.heap.size + 1 := by simp
  subst h
  refine ⟨(Blk.new _ _ _).later (below_alloc _ _), ?_, below_trans (below_alloc _ _) (below_alloc _ _)⟩
  rw [← e1]; exact Blk.new _ _ _
def tkZ : Array Value := #[.pointer none, .int .i64 0, .int .i64 0, .string ⟨#[]⟩]
set_option maxRecDepth 20000 in
set_option maxHeartbeats 1000000 in
theorem put_long (w : World) (B0 t pm n base : Nat) {P : Nat → List UInt8} {K : Nat} {F : List Nat} {N : Nat → Nat} (h : Sp sv w t pm n P K F N) (hs : Sv w base sv [] pm) (s : ByteArray) (h40 : 40 < s.size) (h4k : s.size ≤ 4000) (hK : K ≤ 70000) (hroom : pcN (s.extract 40 s.size) 240 ≤ F.length + (4096 - n)) (h0 : B0 ≤ t ∧ B0 ≤ pm ∧ B0 ≤ base ∧ base ≤ w.heap.size) :
    Calls Tryz.prog 12 #[.pointer (some ⟨t, 0, none⟩), .string s] w fun e w' => e = .returned (.tuple #[.string (⟨(Rec.putL s.size).toArray⟩ ++ s.extract 0 40 ++ cellB (tkAt n F 0)), .int .i64 0]) ∧ PtE w w' B0 t pm n base P K F N (s.extract 40 s.size) := by
  have hrs : (s.extract 40 s.size).size = s.size - 40 := by rw [ByteArray.size_extract]; omega
  have hhs : (s.extract 0 40).size = 40 := by rw [ByteArray.size_extract]; omega
  have hb0 : B0 ≤ w.heap.size := by omega
  have hFa := hide (And.intro h.ch.all (And.intro h.ld.one h.ld.tr.few))
  have hft : tkAt n F 0 < 4294967296 := by
    have := tkAt_bd hFa.out.1 hFa.out.2.1 0
    have := hFa.out.2.2
    cases F with
    | nil => simp [tkAt]; omega
    | cons g G => have := (hFa.out.1 g (by simp)).2; simp [tkAt]; omega
  have HM := hide (pmayChange_e w _ 4 _ h.ld.tr.mayC)
  rw [show unN 4 = 0 by rfl] at HM
  have HC := hide (fun X => cut_l X s h40)
  have HTx := hide (fun X => text_l X s.size (s.extract 0 40) (tkAt n F 0) h4k hhs h40 hft)
  have HPi := hide (fun X => pieces_e X (s.extract 40 s.size) 240)
  have HWk := hide (fun X cb A B (hb : Below w.heap.size w X) hA hB hc hcb => walkS_e X B0 t pm n base cb A B (h.later hb) (hs.later hb) (s.extract 40 s.size) 240 (by omega) (by omega) (by omega) hK hroom hA hB hc ⟨h0.1, h0.2.1, h0.2.2.1, Nat.le_trans h0.2.2.2 hb.size, hcb⟩)
  have HEnd := hide (fun w8 w9 W10 w11 cb s7 c7 hw hk h7 hs7 ho hb => pte_mk (w := w) (w8 := w8) (w9 := w9) (W10 := W10) (w11 := w11) (B0 := B0) (t := t) (pm := pm) (n := n) (base := base) (cb := cb) (s7 := s7) (l := 0) (c7 := c7) (c7' := #[]) (q := ⟨#[]⟩) (P := P) (K := K) (F := F) (N := N) (r := s.extract 40 s.size) hw hk hFa.out.1 hFa.out.2.1 (by omega) hb0 h7 hs7 ho hb)
  have HTk := hide (fun (W : World) (cb : Nat) (sv' : Value) (hk : TkS sv' t pm n P K F N cb (pcL (s.extract 40 s.size) 240) W) => (tks_end hk hFa.out.1 hFa.out.2.1 (by omega)).2)
  have HJ := hide (sizeS s.size (s.extract 0 40) 0)
  have HJ2 := hide (sizeS s.size (s.extract 0 40) (tkAt n F 0 : Int))
  have HJt := hide (sizeTk t 0 0 ⟨#[]⟩)
  have hr0 : (s.extract 40 s.size).toList.isEmpty = false := by
    have hl : (s.extract 40 s.size).data.toList.length = s.size - 40 := (bytes_size _).trans hrs
    rw [ByteArray.toList_eq]
    cases hd : (s.extract 40 s.size).data.toList with
    | nil => rw [hd] at hl; simp only [List.length_nil] at hl; omega
    | cons _ _ => rfl
  have l1 : ¬ (4000 : Int) < (s.size : Int) := by omega
  unfold takeF at HWk
  clear h hs hrs hhs h40 h4k hK hroom hft
  generalize s.extract 40 s.size = r at *
  generalize s.extract 0 40 = hd at *
  generalize tkAt n F 0 = f at *
  generalize (⟨(Rec.putL s.size).toArray⟩ ++ hd ++ cellB f) = res at *
  go_enter Tryz.func12, Tryz.ntmps12
  go_wp2_with (first
    | (go_at_call 36; (with_reducible refine Calls.mono HM.out ?_); rintro e w4 ⟨rfl, hb⟩; have HB4 := hide hb; clear hb)
    | (go_at_call 43; (with_reducible refine Calls.mono (HC.out _) ?_); rintro e w5 ⟨rfl, hb⟩; have hb2 := below_trans HB4.out hb; have HZ5 := hide hb2.size; have HB5 := hide (below_trans hb2 (below_alloc w5 (.cells #[.int .i64 0, .string ⟨#[]⟩, .int .i64 0] 90))); have HS5 := hide (st_new w5); clear hb hb2)
    | ((with_reducible refine atSt 90 ?_); refine wp_storeB (c := stA s.size hd 0) (z := stA 0 ⟨#[]⟩ 0) HJ.out rfl (st_one _ _ _) HS5.out _ _ (by rfl) (by rfl) (by rfl) (by rfl) ?_; intro W6 hb6 ho6; have HB6 := hide (below_trans (below_only1 HB5.out ho6 HZ5.out) (below_alloc W6 (.cells tkZ 95))); have HS6 := hide (hb6.later (below_alloc W6 (.cells tkZ 95))); have HN6 := hide (Blk.new W6 tkZ 95); have HZ6 := hide (below_only1 HB5.out ho6 HZ5.out).size; clear hb6 ho6)
    | ((with_reducible refine atSt 95 ?_); refine wp_storeB (c := tkA t 0 0 ⟨#[]⟩) (z := tkZ) HJt.out rfl (tk_one _ _ _ _) HN6.out _ _ (by rfl) (by rfl) (by rfl) (by rfl) ?_; intro W7 hb7 ho7; have HB7 := hide (below_only1 HB6.out ho7 HZ6.out); have HT7 := hide hb7; have HS7 := hide (HS6.out.only ho7 (by have := blk_ne HS6.out HN6.out (by decide); simpa using this)); clear hb7 ho7)
    | (go_at_call 46; (with_reducible refine Calls.mono (HPi.out _) ?_); rintro e w8 ⟨rfl, hw8⟩; obtain ⟨x0, x1, x2⟩ := pc_new0 hw8; have HB8 := hide (below_trans HB7.out x2); have HA8 := hide x0; have HI8 := hide x1; have HT8 := hide (HT7.out.later x2); have HS8 := hide (HS7.out.later x2); clear hw8 x0 x1 x2)
    | (go_at_call 45; (with_reducible refine Calls.mono (HWk.out _ _ _ _ HB8.out HA8.out HI8.out HT8.out (Nat.le_trans hb0 HZ6.out)) ?_); rintro e w9 ⟨rfl, hk⟩; have HK9 := hide hk; obtain ⟨sv', g1, g2, g3⟩ := hk; obtain ⟨l9, q9, hT9⟩ := HTk.out _ _ _ g1; have hS9 := g3.kp _ _ _ HS8.out (by decide) (by decide) (by decide); have c1 : w9.cell? ⟨W6.heap.size, 1, none⟩ = some (.int .i64 (f : Int)) := hT9.cell 1; have c2 : w9.cell? ⟨w5.heap.size, 2, none⟩ = some (.int .i64 0) := hS9.cell 2; have f2 := hS9.frozen 2; have HS9 := hide hS9; have HS10 := hide (show Blk (w9.setCell ⟨w5.heap.size, 2, none⟩ (.int .i64 (f : Int))) w5.heap.size (stA s.size hd f) 90 from hS9.set 2 (.int .i64 (f : Int))); clear g1 g2 g3 hT9 hS9)
    | ((with_reducible refine atLd 90 ?_); refine wp_loadB (c := stA s.size hd f) HJ2.out uS HS10.out _ (by rfl) (by rfl) (by rfl) ?_)
    | (go_at_call 44; (with_reducible refine Calls.mono (HTx.out _) ?_); rintro e w11 ⟨rfl, hb⟩; have HB11 := hide hb; clear hb))
  go_ret2
  exact ⟨rfl, HEnd.out _ _ _ _ _ _ _ HB8.out HK9.out HS9.out HZ5.out (Only.setCell w9 ⟨w5.heap.size, 2, none⟩ (.int .i64 (f : Int))) HB11.out⟩
end Go.Proofs.YthgclfhfipfknaaGreat
