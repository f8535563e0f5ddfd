/- Package spill: Put of a long payload. -/
/- Package spill: Drop of a chain that is there, exactly. -/
/- Package spill: a stub that was written is read. -/
/- The law's payloads. -/
/- SpillBack: what is kept of payloads that were put in. -/
import Derived.Test.YthgclfhfipfknaaGreatPPK
import Derived.Test.YthgclfhfipfknaaGreatPPL
import Derived.Test.YthgclfhfipfknaaGreatPNG
import Derived.Test.YthgclfhfipfknaaGreatPPF
namespace Go.Proofs.YthgclfhfipfknaaGreat
variable {sv : Value}
open Go.ChangeShapes Go.WideShapes Go.ChangeAt Go.RowKit Go.Maps Go.Shelf
set_option linter.unusedVariables false

theorem Kb.then_below {B0 : Nat} {k : TypeId} {w a b : World} (h : Kb B0 k w a) (hb : Below a.heap.size a b) (h0 : B0 ≤ w.heap.size) : Kb B0 k w b := h.trans (Kb.of_below hb (Nat.le_trans h0 h.bel.size))
theorem Kb.then_new {B0 : Nat} {k : TypeId} {w a b : World} {g : Nat} (h : Kb B0 k w a) (ho : Only [g] a b) (hg : w.heap.size ≤ g) (h0 : B0 ≤ w.heap.size) : Kb B0 k w b :=
  ⟨h.bel.trans (ho.below (Nat.le_trans h0 h.bel.size) (fun j hj => by simp at hj; omega)), fun b c ty hb n1 n2 n3 => (h.kp _ _ _ hb n1 n2 n3).only ho (by have := hb.lt; simp; omega)⟩
theorem Sv.onlyX {w V : World} {base pm g : Nat} {c : Array Value} {ty : TypeId} (h : Sv w base sv [] pm) (hg : Blk w g c ty) (ht : ty ≠ 117) (ho : Only [g] w V) : Sv V base sv [] pm :=
  h.only ho (fun g' e hm => by
    have e1 : g' = g := by simpa using hm
    subst e1
    obtain ⟨_, c', hb⟩ := ownC_blk h.row e
    exact blk_ne hb hg (Ne.symm ht) rfl) (fun s hs => by cases hs)
/-- What Put of a payload with a chain leaves; r is what the chain holds. -/
def PtE (w w' : World) (B0 t pm n base : Nat) (P : Nat → List UInt8) (K : Nat) (F : List Nat) (N : Nat → Nat) (r : ByteArray) : Prop := ∃ sv' P' K', Sp sv' w' t pm (n + (pcN r 240 - F.length)) P' K' (F.drop (pcN r 240)) N ∧ K' ≤ K + 3 * pcN r 240 ∧ (∀ i, 2 ≤ i → i ≤ n → i ∉ tkL n F (pcN r 240) → P' i = P i) ∧ Cn P' (n + (pcN r 240 - F.length)) (tkAt n F 0) r.data.toList (tkL n F (pcN r 240)) ∧ Sv w' base sv' [] pm ∧ Kb B0 95 w w'
theorem pcL_len (r : ByteArray) (z : Nat) : (pcL r z).length = pcN r z := by simp [pcL]
theorem tks_end {W : World} {t pm n cb : Nat} {P : Nat → List UInt8} {K : Nat} {F : List Nat} {N : Nat → Nat} {r : ByteArray} (h : TkS sv t pm n P K F N cb (pcL r 240) W) (hF : ∀ g ∈ F, 2 ≤ g ∧ g ≤ n) (h1 : 1 ≤ n) (h0 : 0 < r.size) :
    (∃ P' K', Sp sv W t pm (n + (pcN r 240 - F.length)) P' K' (F.drop (pcN r 240)) N ∧ K' ≤ K + 3 * pcN r 240 ∧ (∀ i, 2 ≤ i → i ≤ n → i ∉ tkL n F (pcN r 240) → P' i = P i) ∧ Cn P' (n + (pcN r 240 - F.length)) (tkAt n F 0) r.data.toList (tkL n F (pcN r 240))) ∧ ∃ l q, Blk W cb (tkA t (tkAt n F 0) l q) 95 := by
  obtain ⟨_, ⟨P', K', h2, h3, h4, h5⟩, f, l, q, h6, _, h7⟩ := h
  have hN : 0 < pcN r 240 := (pcN_lt r 240 0 (by omega)).2 (by omega)
  rw [pcL_len] at h2 h3 h4 h5 h7
  obtain ⟨rfl, _, _⟩ := h7 hN
  refine ⟨⟨P', K', h2, h3, h4, ?_⟩, l, q, h6⟩
  have hc := cn_of (P := P') (s := r) hF h1 rfl rfl h2.ld.tr.few (fun k hk => ?_) (pcN r 240) 0 (by omega)
  · rw [Nat.mul_zero, List.drop_zero, show nxP n F (pcN r 240) 0 = tkAt n F 0 by unfold nxP; rw [if_pos hN]] at hc
    rw [tkL, List.range_eq_range']
    exact hc
  · rw [h5 k hk]
    congr 1
    simp [pcL, List.getD, hk]
theorem pte_mk {w w8 w9 W10 w11 : World} {B0 t pm n base cb s7 l : Nat} {c7 c7' : Array Value} {q : ByteArray} {P : Nat → List UInt8} {K : Nat} {F : List Nat} {N : Nat → Nat} {r : ByteArray} (hw : Below w.heap.size w w8) (h : TkE w8 w9 B0 t pm n base P K F N cb (pcL r 240)) (hF : ∀ g ∈ F, 2 ≤ g ∧ g ≤ n) (h1 : 1 ≤ n) (h0 : 0 < r.size) (hB0 : B0 ≤ w.heap.size) (h7 : Blk w9 s7 c7 90) (hs7 : w.heap.size ≤ s7) (ho : Only [s7] w9 W10) (hb : Below W10.heap.size W10 w11) : PtE w w11 B0 t pm n base P K F N r := by
  obtain ⟨sv', g1, g2, g3⟩ := h
  obtain ⟨⟨P', K', h2, h3, h4, h5⟩, _⟩ := tks_end g1 hF h1 h0
  have e7 : ∀ b ∈ [s7], ∃ c ty, Blk w9 b c ty ∧ Ot ty := fun b hb => by
    have e : b = s7 := by simpa using hb
    subst e
    exact ⟨_, _, h7, by unfold Ot; decide⟩
  exact ⟨sv', P', K', (h2.onlyX ho e7).later hb, h3, h4, h5, (g2.onlyX h7 (by decide) ho).later hb, (((Kb.of_below hw hB0).trans g3).then_new ho hs7 hB0).then_below hb hB0⟩
theorem infoT : (Tryz.prog.info? 95).map (·.size) = some 4 := by kernel_rfl
theorem sizeTk (t f l : Nat) (q : ByteArray) : (Tryz.prog.info? 95).map (·.size) = some (tkA t f l q).size := infoT
theorem tk_one (t f l : Nat) (q : ByteArray) : (tkA t f l q).all (·.oneCell') = true := all_oneCell_toArray (cs := [Value.pointer (some ⟨t, 0, none⟩), .int .i64 (f : Int), .int .i64 (l : Int), .string q]) (by intro v hv; simp at hv; rcases hv with rfl | rfl | rfl | rfl <;> rfl)
theorem pc_new0 {w w3 : World} {p : ByteArray} {z : Int} (h : w3 = (w.alloc (.cells #[.string p] 9)).alloc (.cells #[.int .i64 z] 3)) : Blk w3 w.heap.size #[.string p] 9 ∧ Blk w3 (w.heap.size + 1) #[.int .i64 z] 3 ∧ Below w.heap.size w w3 := by
  have e1 : (w.alloc (.cells #[.string p] 9)).heap.size = w.heap.size + 1 := by simp
  subst h
  refine ⟨(Blk.new _ _ _).later (below_alloc _ _), ?_, below_trans (below_alloc _ _) (below_alloc _ _)⟩
  rw [← e1]; exact Blk.new _ _ _
def tkZ : Array Value := #[.pointer none, .int .i64 0, .int .i64 0, .string ⟨#[]⟩]
set_option maxRecDepth 20000 in
set_option maxHeartbeats 1000000 in
theorem put_long (w : World) (B0 t pm n base : Nat) {P : Nat → List UInt8} {K : Nat} {F : List Nat} {N : Nat → Nat} (h : Sp sv w t pm n P K F N) (hs : Sv w base sv [] pm) (s : ByteArray) (h40 : 40 < s.size) (h4k : s.size ≤ 4000) (hK : K ≤ 70000) (hroom : pcN (s.extract 40 s.size) 240 ≤ F.length + (4096 - n)) (h0 : B0 ≤ t ∧ B0 ≤ pm ∧ B0 ≤ base ∧ base ≤ w.heap.size) :
    Calls Tryz.prog 12 #[.pointer (some ⟨t, 0, none⟩), .string s] w fun e w' => e = .returned (.tuple #[.string (⟨(Rec.putL s.size).toArray⟩ ++ s.extract 0 40 ++ cellB (tkAt n F 0)), .int .i64 0]) ∧ PtE w w' B0 t pm n base P K F N (s.extract 40 s.size) := by
  have hrs : (s.extract 40 s.size).size = s.size - 40 := by rw [ByteArray.size_extract]; omega
  have hhs : (s.extract 0 40).size = 40 := by rw [ByteArray.size_extract]; omega
  have hb0 : B0 ≤ w.heap.size := by omega
  have hFa := hide (And.intro h.ch.all (And.intro h.ld.one h.ld.tr.few))
  have hft : tkAt n F 0 < 4294967296 := by
    have := tkAt_bd hFa.out.1 hFa.out.2.1 0
    have := hFa.out.2.2
    cases F with
    | nil => simp [tkAt]; omega
    | cons g G => have := (hFa.out.1 g (by simp)).2; simp [tkAt]; omega
  have HM := hide (pmayChange_e w _ 4 _ h.ld.tr.mayC)
  rw [show unN 4 = 0 by rfl] at HM
  have HC := hide (fun X => cut_l X s h40)
  have HTx := hide (fun X => text_l X s.size (s.extract 0 40) (tkAt n F 0) h4k hhs h40 hft)
  have HPi := hide (fun X => pieces_e X (s.extract 40 s.size) 240)
  have HWk := hide (fun X cb A B (hb : Below w.heap.size w X) hA hB hc hcb => walkS_e X B0 t pm n base cb A B (h.later hb) (hs.later hb) (s.extract 40 s.size) 240 (by omega) (by omega) (by omega) hK hroom hA hB hc ⟨h0.1, h0.2.1, h0.2.2.1, Nat.le_trans h0.2.2.2 hb.size, hcb⟩)
  have HEnd := hide (fun w8 w9 W10 w11 cb s7 c7 hw hk h7 hs7 ho hb => pte_mk (w := w) (w8 := w8) (w9 := w9) (W10 := W10) (w11 := w11) (B0 := B0) (t := t) (pm := pm) (n := n) (base := base) (cb := cb) (s7 := s7) (l := 0) (c7 := c7) (c7' := #[]) (q := ⟨#[]⟩) (P := P) (K := K) (F := F) (N := N) (r := s.extract 40 s.size) hw hk hFa.out.1 hFa.out.2.1 (by omega) hb0 h7 hs7 ho hb)
  have HTk := hide (fun (W : World) (cb : Nat) (sv' : Value) (hk : TkS sv' t pm n P K F N cb (pcL (s.extract 40 s.size) 240) W) => (tks_end hk hFa.out.1 hFa.out.2.1 (by omega)).2)
  have HJ := hide (sizeS s.size (s.extract 0 40) 0)
  have HJ2 := hide (sizeS s.size (s.extract 0 40) (tkAt n F 0 : Int))
  have HJt := hide (sizeTk t 0 0 ⟨#[]⟩)
  have hr0 : (s.extract 40 s.size).toList.isEmpty = false := by
    have hl : (s.extract 40 s.size).data.toList.length = s.size - 40 := (bytes_size _).trans hrs
    rw [ByteArray.toList_eq]
    cases hd : (s.extract 40 s.size).data.toList with
    | nil => rw [hd] at hl; simp only [List.length_nil] at hl; omega
    | cons _ _ => rfl
  have l1 : ¬ (4000 : Int) < (s.size : Int) := by omega
  unfold takeF at HWk
  clear h hs hrs hhs h40 h4k hK hroom hft
  generalize s.extract 40 s.size = r at *
  generalize s.extract 0 40 = hd at *
  generalize tkAt n F 0 = f at *
  generalize (⟨(Rec.putL s.size).toArray⟩ ++ hd ++ cellB f) = res at *
  go_enter Tryz.func12, Tryz.ntmps12
  go_wp2_with (first
    | (go_at_call 36; (with_reducible refine Calls.mono HM.out ?_); rintro e w4 ⟨rfl, hb⟩; have HB4 := hide hb; clear hb)
    | (go_at_call 43; (with_reducible refine Calls.mono (HC.out _) ?_); rintro e w5 ⟨rfl, hb⟩; have hb2 := below_trans HB4.out hb; have HZ5 := hide hb2.size; have HB5 := hide (below_trans hb2 (below_alloc w5 (.cells #[.int .i64 0, .string ⟨#[]⟩, .int .i64 0] 90))); have HS5 := hide (st_new w5); clear hb hb2)
    | ((with_reducible refine atSt 90 ?_); refine wp_storeB (c := stA s.size hd 0) (z := stA 0 ⟨#[]⟩ 0) HJ.out rfl (st_one _ _ _) HS5.out _ _ (by rfl) (by rfl) (by rfl) (by rfl) ?_; intro W6 hb6 ho6; have HB6 := hide (below_trans (below_only1 HB5.out ho6 HZ5.out) (below_alloc W6 (.cells tkZ 95))); have HS6 := hide (hb6.later (below_alloc W6 (.cells tkZ 95))); have HN6 := hide (Blk.new W6 tkZ 95); have HZ6 := hide (below_only1 HB5.out ho6 HZ5.out).size; clear hb6 ho6)
    | ((with_reducible refine atSt 95 ?_); refine wp_storeB (c := tkA t 0 0 ⟨#[]⟩) (z := tkZ) HJt.out rfl (tk_one _ _ _ _) HN6.out _ _ (by rfl) (by rfl) (by rfl) (by rfl) ?_; intro W7 hb7 ho7; have HB7 := hide (below_only1 HB6.out ho7 HZ6.out); have HT7 := hide hb7; have HS7 := hide (HS6.out.only ho7 (by have := blk_ne HS6.out HN6.out (by decide); simpa using this)); clear hb7 ho7)
    | (go_at_call 46; (with_reducible refine Calls.mono (HPi.out _) ?_); rintro e w8 ⟨rfl, hw8⟩; obtain ⟨x0, x1, x2⟩ := pc_new0 hw8; have HB8 := hide (below_trans HB7.out x2); have HA8 := hide x0; have HI8 := hide x1; have HT8 := hide (HT7.out.later x2); have HS8 := hide (HS7.out.later x2); clear hw8 x0 x1 x2)
    | (go_at_call 45; (with_reducible refine Calls.mono (HWk.out _ _ _ _ HB8.out HA8.out HI8.out HT8.out (Nat.le_trans hb0 HZ6.out)) ?_); rintro e w9 ⟨rfl, hk⟩; have HK9 := hide hk; obtain ⟨sv', g1, g2, g3⟩ := hk; obtain ⟨l9, q9, hT9⟩ := HTk.out _ _ _ g1; have hS9 := g3.kp _ _ _ HS8.out (by decide) (by decide) (by decide); have c1 : w9.cell? ⟨W6.heap.size, 1, none⟩ = some (.int .i64 (f : Int)) := hT9.cell 1; have c2 : w9.cell? ⟨w5.heap.size, 2, none⟩ = some (.int .i64 0) := hS9.cell 2; have f2 := hS9.frozen 2; have HS9 := hide hS9; have HS10 := hide (show Blk (w9.setCell ⟨w5.heap.size, 2, none⟩ (.int .i64 (f : Int))) w5.heap.size (stA s.size hd f) 90 from hS9.set 2 (.int .i64 (f : Int))); clear g1 g2 g3 hT9 hS9)
    | ((with_reducible refine atLd 90 ?_); refine wp_loadB (c := stA s.size hd f) HJ2.out uS HS10.out _ (by rfl) (by rfl) (by rfl) ?_)
    | (go_at_call 44; (with_reducible refine Calls.mono (HTx.out _) ?_); rintro e w11 ⟨rfl, hb⟩; have HB11 := hide hb; clear hb))
  go_ret2
  exact ⟨rfl, HEnd.out _ _ _ _ _ _ _ HB8.out HK9.out HS9.out HZ5.out (Only.setCell w9 ⟨w5.heap.size, 2, none⟩ (.int .i64 (f : Int))) HB11.out⟩
end Go.Proofs.YthgclfhfipfknaaGreat

namespace Go.Proofs.YthgclfhfipfknaaGreat
variable {sv : Value}
open Go.ChangeShapes Go.WideShapes Go.ChangeAt Go.RowKit Go.Maps Go.Shelf
set_option linter.unusedVariables false

/-- What Drop of a chain leaves. -/
def DpE (w w' : World) (B0 t pm n base : Nat) (P : Nat → List UInt8) (K : Nat) (F : List Nat) (N : Nat → Nat) (G : List Nat) : Prop := ∃ sv' P' K', Sp sv' w' t pm n P' K' (G ++ F) N ∧ K' ≤ K + 3 * G.length ∧ (∀ j, 2 ≤ j → j ∉ G → P' j = P j) ∧ Sv w' base sv' [] pm ∧ Kb B0 95 w w'
theorem dpe_none {w w' : World} {B0 t pm n base : Nat} {P : Nat → List UInt8} {K : Nat} {F : List Nat} {N : Nat → Nat} (h : Sp sv w t pm n P K F N) (hs : Sv w base sv [] pm) (hb : Below w.heap.size w w') (h0 : B0 ≤ w.heap.size) : DpE w w' B0 t pm n base P K F N [] :=
  ⟨sv, P, K, h.later hb, by simp, fun _ _ _ => rfl, hs.later hb, Kb.of_below hb h0⟩
theorem dpe_some {w w7 w9 : World} {B0 t pm n base : Nat} {P : Nat → List UInt8} {K : Nat} {F : List Nat} {N : Nat → Nat} {G : List Nat} (hb : Below w.heap.size w w7) (h0 : B0 ≤ w.heap.size) (h : DkE w7 w9 B0 t pm n base P K F N G.reverse) : DpE w w9 B0 t pm n base P K F N G := by
  obtain ⟨sv', P', K', h1, h2, h3, h4, h5⟩ := h
  rw [List.reverse_reverse] at h1
  rw [List.length_reverse] at h2
  exact ⟨sv', P', K', h1, h2, fun j hj hn => h3 j hj (fun hm => hn (List.mem_reverse.1 hm)), h4, (Kb.of_below hb h0).trans h5⟩
set_option maxRecDepth 100000 in
set_option maxHeartbeats 4000000 in
theorem drop_g (w : World) (B0 t pm n base : Nat) {P : Nat → List UInt8} {K : Nat} {F : List Nat} {N : Nat → Nat} (h : Sp sv w t pm n P K F N) (hs : Sv w base sv [] pm) (hK : K ≤ 80000) (s : ByteArray) (hsz : s.size ≤ 140737488355328) (d : List UInt8) (G : List Nat) (hR : foundR P n s = some (d, G)) (hn : G.Nodup) (hF : ∀ g ∈ G, g ∉ F) (h0 : B0 ≤ t ∧ B0 ≤ pm ∧ B0 ≤ base ∧ base ≤ w.heap.size) :
    Calls Tryz.prog 9 #[.pointer (some ⟨t, 0, none⟩), .string s] w fun e w' => e = .returned (.int .i64 0) ∧ DpE w w' B0 t pm n base P K F N G := by
  have hb0 := below_alloc w (.cells #[.pointer (some ⟨t, 0, none⟩)] 24)
  have k2 := Blk.new w #[Value.pointer (some ⟨t, 0, none⟩)] 24
  have HM := hide (pmayChange_e _ _ 4 _ (h.ld.tr.later hb0).mayC)
  rw [show unN 4 = 0 by rfl] at HM
  have HF := hide (fun X (hb : Below w.heap.size w X) => find_any X t pm n (h.ld.tr.later hb) s hsz)
  have HK2 := hide k2
  have c2 := k2.cell 0
  have HB0 := hide hb0
  have hB0w : B0 ≤ w.heap.size := by omega
  have HI0 := hide (sizeK ⟨#[]⟩ 0 none 0 0)
  obtain ⟨f1, f2, f3, f4⟩ := found_facts hR
  have HT := hide h
  have HS := hide hs
  have HNd := hide (And.intro hn hF)
  rw [hR] at HF
  generalize rdSz s = z at *
  clear k2 h hs hR hn hF
  have HI1 := hide (fun p c => sizeK ⟨d.toArray⟩ (z : Int) p G.length c)
  by_cases hG0 : G.length = 0
  · have g0b : ((G.length : Int) == 0) = true := by simpa using hG0
    have hGn : Hid (G = []) := List.length_eq_zero_iff.1 hG0
    clear hG0
    go_enter Tryz.func9, Tryz.ntmps9
    go_wp2_with (first
      | (go_at_call 36; (with_reducible refine Calls.mono HM.out ?_); rintro e w4 ⟨rfl, hb⟩; have HB4 := hide (below_trans HB0.out hb); have c24 := cell_later hb c2; have HK4 := hide (HK2.out.later hb); clear hb)
      | (go_at_call 37; (with_reducible refine Calls.mono (HF.out _ HB4.out) ?_); rintro e w5 ⟨p, c, rfl, ho, hb⟩; have HB5 := hide (below_trans (below_trans HB4.out hb) (below_alloc w5 (.cells #[.string ⟨#[]⟩, .int .i64 0, .slice none 0 0] 79))); have HS5 := hide (below_trans HB4.out hb).size; have HK5 := hide (kp_new w5); have HO5 := hide (own_same ho (fun g cs fz hg _ => (below_alloc w5 (.cells #[.string ⟨#[]⟩, .int .i64 0, .slice none 0 0] 79)).block g (Array.getElem?_eq_some_iff.1 hg).1)); have HQ5 := hide ((HK4.out.later hb).later (below_alloc w5 (.cells #[.string ⟨#[]⟩, .int .i64 0, .slice none 0 0] 79))); clear hb ho)
      | ((with_reducible refine atSt 79 ?_); refine wp_storeB (c := kpA ⟨d.toArray⟩ (z : Int) p G.length c) (z := kpA ⟨#[]⟩ 0 none 0 0) (HI1.out p c) rfl (kp_one _ _ _ _ _) HK5.out _ _ (by rfl) (by rfl) (by rfl) (by rfl) ?_; intro W6 hb6 ho6; obtain ⟨k0, k1, k2⟩ := kp_cells hb6; have HB6 := hide (below_only1 HB5.out ho6 HS5.out); have HQ6 := hide (HQ5.out.only ho6 (by have := HK4.out.lt; have := HQ5.out.lt; intro hm; have e1 : w.heap.size = w5.heap.size := (by simpa using hm); exact blk_ne HQ5.out (e1 ▸ HK5.out) (by decide) rfl)); have c26 := HQ6.out.cell 0; clear hb6 ho6))
    go_ret
    refine ⟨rfl, ?_⟩
    rw [hGn.out]
    exact dpe_none HT.out HS.out HB6.out hB0w
  · have g0 : ¬ (G.length : Int) = 0 := by omega
    have g0b : ((G.length : Int) == 0) = false := by simpa using g0
    go_enter Tryz.func9, Tryz.ntmps9
    go_wp2_with (first
      | (go_at_call 36; (with_reducible refine Calls.mono HM.out ?_); rintro e w4 ⟨rfl, hb⟩; have HB4 := hide (below_trans HB0.out hb); have c24 := cell_later hb c2; have HK4 := hide (HK2.out.later hb); clear hb)
      | (go_at_call 37; (with_reducible refine Calls.mono (HF.out _ HB4.out) ?_); rintro e w5 ⟨p, c, rfl, ho, hb⟩; have HB5 := hide (below_trans (below_trans HB4.out hb) (below_alloc w5 (.cells #[.string ⟨#[]⟩, .int .i64 0, .slice none 0 0] 79))); have HS5 := hide (below_trans HB4.out hb).size; have HK5 := hide (kp_new w5); have HO5 := hide (own_same ho (fun g cs fz hg _ => (below_alloc w5 (.cells #[.string ⟨#[]⟩, .int .i64 0, .slice none 0 0] 79)).block g (Array.getElem?_eq_some_iff.1 hg).1)); have HQ5 := hide ((HK4.out.later hb).later (below_alloc w5 (.cells #[.string ⟨#[]⟩, .int .i64 0, .slice none 0 0] 79))); clear hb ho)
      | ((with_reducible refine atSt 79 ?_); refine wp_storeB (c := kpA ⟨d.toArray⟩ (z : Int) p G.length c) (z := kpA ⟨#[]⟩ 0 none 0 0) (HI1.out p c) rfl (kp_one _ _ _ _ _) HK5.out _ _ (by rfl) (by rfl) (by rfl) (by rfl) ?_; intro W6 hb6 ho6; obtain ⟨k0, k1, k2⟩ := kp_cells hb6; have HB6 := hide (below_only1 HB5.out ho6 HS5.out); have HO6 := hide (own_same HO5.out (fun g cs fz hg _ => ho6.block g (Array.getElem?_eq_some_iff.1 hg).1 (fun hm => by have e1 : g = w5.heap.size := (by simpa using hm); subst e1; rw [show _ = _ from HK5.out] at hg; injection hg with e2; injection e2 with _ e3; exact absurd e3 (by decide)))); have HQ6 := hide (HQ5.out.only ho6 (by have := HK4.out.lt; have := HQ5.out.lt; intro hm; have e1 : w.heap.size = w5.heap.size := (by simpa using hm); exact blk_ne HQ5.out (e1 ▸ HK5.out) (by decide) rfl)); have c26 := HQ6.out.cell 0; have HK6 := hide hb6; clear hb6 ho6))
    rcases HO6.out.2 with ⟨hv, hn⟩ | ⟨g, cap, cur, hv, hge, hgg, hcap, _, hcs, htk⟩
    · exact absurd hn hG0
    · injection hv with e1 e2 e3
      subst e1 e3
      have hcl : G.length ≤ cur.size := by rw [hcs]; omega
      have hgB : Blk W6 g cur 3 := hgg
      have HT6 := hide (HT.out.later HB6.out)
      have HS6 := hide (HS.out.later HB6.out)
      have htk' : cur.toList.take G.length = inL G := by rw [Nat.mul_one] at htk; exact htk
      with_reducible refine Calls.mono (rev_e W6 g c G cur hgB htk' f2 hcl) ?_
      rintro e w7 ⟨rfl, hI7, ho7⟩
      have hT7 := HT6.out.onlyX ho7 (fun b hb => by have e1 : b = g := (by simpa using hb); subst e1; exact ⟨_, _, hgB, by unfold Ot; decide⟩)
      have hS7 := sv_g HS6.out hgB ho7
      have q7 := HQ6.out.only ho7 (fun hm => by have e1 : w.heap.size = g := (by simpa using hm); subst e1; exact blk_ne HQ6.out hgB (by decide) rfl)
      have k7 := HK6.out.only ho7 (fun hm => by have e1 : w5.heap.size = g := (by simpa using hm); subst e1; exact blk_ne HK6.out hgB (by decide) rfl)
      have hw7 : Below w.heap.size w w7 := below_only1 HB6.out ho7 (Nat.le_trans HB4.out.size hge)
      obtain ⟨m0, m1, m2⟩ := kp_cells k7
      have c27 := q7.cell 0
      have HC7 := hide (show w7.drew.cell? ⟨w.heap.size, 0, none⟩ = some (.pointer (some ⟨t, 0, none⟩)) ∧ w7.drew.cell? ⟨w5.heap.size, 2, none⟩ = some (.slice (some ⟨g, 0, none⟩) G.length c) from ⟨c27, m2⟩)
      have HT7 := hide hT7
      have HS7 := hide hS7
      have HI7 := hide hI7
      have HQ7 := hide q7
      have HB7 := hide hw7
      clear hT7 hS7 q7 k7 hI7 ho7 hw7 m0 m1 m2 c27
      have hbx : Below w7.heap.size w7 (w7.alloc (.cells #[.slice (some ⟨g, 0, none⟩) G.length c] 27)).drew := below_dr (below_alloc _ _)
      have HWk := hide (walkD_e (w7.alloc (.cells #[.slice (some ⟨g, 0, none⟩) G.length c] 27)).drew B0 t pm n base (HT7.out.later hbx) (HS7.out.later hbx) w.heap.size w7.heap.size g c G.reverse (fun g hg => f1 g (List.mem_reverse.1 hg)) (List.pairwise_reverse.2 (HNd.out.1.imp Ne.symm)) (fun g hg => HNd.out.2 g (List.mem_reverse.1 hg)) (by rw [List.length_reverse]; exact f2) (by rw [List.length_reverse]; omega) (HQ7.out.later hbx) (by rw [List.length_reverse]; exact (Blk.new w7 _ _).drew) (let ⟨cur, c1, c2⟩ := HI7.out; ⟨cur, Blk.later c1 hbx, c2⟩) ⟨h0.1, h0.2.1, h0.2.2.1, Nat.le_trans h0.2.2.2 (Nat.le_trans HB7.out.size hbx.size)⟩)
      unfold dropF at HWk
      have HBx := hide (below_trans HB7.out hbx)
      clear hbx
      go_wp2_with fail
      have n1 := HC7.out.1
      have n2 := HC7.out.2
      have n3 := cell_later (below_alloc w7.drew (.cells #[.slice (some ⟨g, 0, none⟩) G.length c] 27)) HC7.out.1
      have n4 := cell_later (below_alloc w7.drew (.cells #[.slice (some ⟨g, 0, none⟩) G.length c] 27)) HC7.out.2
      have n5 : (w7.alloc (.cells #[.slice (some ⟨g, 0, none⟩) G.length c] 27)).cell? ⟨w.heap.size, 0, none⟩ = some (.pointer (some ⟨t, 0, none⟩)) := cell_later (below_alloc w7 _) HC7.out.1
      have n6 : (w7.alloc (.cells #[.slice (some ⟨g, 0, none⟩) G.length c] 27)).cell? ⟨w5.heap.size, 2, none⟩ = some (.slice (some ⟨g, 0, none⟩) G.length c) := cell_later (below_alloc w7 _) HC7.out.2
      have n7 : w7.cell? ⟨w.heap.size, 0, none⟩ = some (.pointer (some ⟨t, 0, none⟩)) := HC7.out.1
      have n8 : w7.cell? ⟨w5.heap.size, 2, none⟩ = some (.slice (some ⟨g, 0, none⟩) G.length c) := HC7.out.2
      go_region_with (first
        | (go_at_call 40; (with_reducible refine Calls.mono (values_e _ _ _ _) ?_); rintro e w8 ⟨rfl, rfl⟩)
        | (go_at_call 39; (with_reducible refine Calls.mono HWk.out ?_); rintro e w9 ⟨rfl, hk9⟩; have HK9 := hide hk9; clear hk9))
      all_goals go_wp2
      all_goals go_ret
      all_goals exact ⟨rfl, dpe_some HBx.out hB0w HK9.out⟩
end Go.Proofs.YthgclfhfipfknaaGreat

namespace Go.Proofs.YthgclfhfipfknaaGreat
open Go.ChangeShapes Go.WideShapes Go.ChangeAt Go.RowKit Go.Maps
set_option linter.unusedVariables false

theorem beg_put (u : Nat) (hu : u ≤ 4000) (r : List UInt8) : Rec.beg (Rec.putL u ++ r) 0 0 = (u, Rec.vsz u) := by
  by_cases h : u < 128
  · have e : Rec.putL u = [UInt8.ofNat u] := by
      unfold Rec.putL
      rw [if_pos (by omega), show Rec.vsz u = 1 by unfold Rec.vsz; rw [if_pos h]]
      simp only [Nat.sub_self, Rec.lows, List.nil_append]
      rw [Nat.mod_eq_of_lt h]
    have e2 : (UInt8.ofNat u).toNat = u := by simp; omega
    rw [e, List.singleton_append, Rec.beg, if_neg (by omega), e2, if_pos h, show Rec.vsz u = 1 by unfold Rec.vsz; rw [if_pos h]]
    simp
  · have hv : Rec.vsz u = 2 := by unfold Rec.vsz; rw [if_neg h, if_pos (by omega)]
    have e : Rec.putL u = [Rec.hiB (u / 128), UInt8.ofNat (u % 128)] := by
      unfold Rec.putL
      rw [if_pos (by omega), hv]
      simp [Rec.lows]
    have e1 : (Rec.hiB (u / 128)).toNat = u / 128 + 128 := by unfold Rec.hiB; simp; omega
    have e2 : (UInt8.ofNat (u % 128)).toNat = u % 128 := by simp; omega
    rw [e, hv]
    simp only [List.cons_append, List.nil_append, Rec.beg]
    rw [if_neg (by omega), e1, if_neg (by omega), if_neg (by omega), e2, if_pos (by omega)]
    have q1 : (0 * 128 + (u / 128 + 128) % 128) * 128 + u % 128 = u := by omega
    rw [q1]
theorem vrd_put (u : Nat) (hu : u ≤ 4000) (r : List UInt8) : Rec.vrdU (Rec.putL u ++ r) = u ∧ Rec.vrdN (Rec.putL u ++ r) = Rec.vsz u := by
  unfold Rec.vrdU Rec.vrdN
  rw [beg_put u hu r]
  simp
/-- The stub of a payload whose chain begins at a page. -/
def stubB (s : ByteArray) (f : Nat) : ByteArray := if s.size ≤ 40 then ⟨(Rec.putL s.size).toArray⟩ ++ s else ⟨(Rec.putL s.size).toArray⟩ ++ s.extract 0 40 ++ cellB f
theorem app_toL (a b : ByteArray) : (a ++ b).data.toList = a.data.toList ++ b.data.toList := by simp
theorem mk_toL (l : List UInt8) : (⟨l.toArray⟩ : ByteArray).data.toList = l := by simp
theorem stubB_size (s : ByteArray) (f : Nat) : (stubB s f).size = if s.size ≤ 40 then Rec.vsz s.size + s.size else Rec.vsz s.size + 44 := by
  unfold stubB
  have h1 : (⟨(Rec.putL s.size).toArray⟩ : ByteArray).size = Rec.vsz s.size := by rw [ba_size, Rec.putL_length]
  split
  · rw [ByteArray.size_append, h1]
  · rw [ByteArray.size_append, ByteArray.size_append, h1, cellB_size, ByteArray.size_extract]; omega
theorem stubB_toL (s : ByteArray) (f : Nat) : ∃ r, (stubB s f).data.toList = Rec.putL s.size ++ r ∧ r.take (min s.size 40) = s.data.toList.take (min s.size 40) ∧ (40 < s.size → r.drop 40 = (cellB f).data.toList) := by
  have hl : s.data.toList.length = s.size := bytes_size s
  unfold stubB
  split
  · rename_i h
    refine ⟨s.data.toList, by rw [app_toL, mk_toL], rfl, fun h2 => by omega⟩
  · rename_i h
    have e : (s.extract 0 40).data.toList = s.data.toList.take 40 := by
      rw [ByteArray.data_extract, Array.toList_extract, List.extract_eq_take_drop, List.drop_zero]
    refine ⟨s.data.toList.take 40 ++ (cellB f).data.toList, by rw [app_toL, app_toL, mk_toL, e, List.append_assoc], ?_, fun _ => ?_⟩
    · rw [Nat.min_eq_right (by omega), List.take_append_of_le_length (by rw [List.length_take]; omega), List.take_take, Nat.min_self]
    · rw [List.drop_append_of_le_length (by rw [List.length_take]; omega), List.drop_of_length_le (by rw [List.length_take]; omega), List.nil_append]
theorem cellB_nmF (f : Nat) (hf : f < 4294967296) (l : List UInt8) (e : Nat) (h : ∀ j, j < 4 → byt l (e + j) = byt (cellB f).data.toList j) : nmF l e 4 = f := by
  have h0 := h 0 (by omega)
  have h1 := h 1 (by omega)
  have h2 := h 2 (by omega)
  have h3 := h 3 (by omega)
  simp only [nmF, h0, h1, h2, h3]
  simp [byt, cellB]
  omega
theorem byt_app (a b : List UInt8) (k j : Nat) (h : a.length ≤ k) : byt (a ++ b) (k + j) = byt b (k - a.length + j) := by
  unfold byt
  rw [List.getElem?_append_right (by omega), show k + j - a.length = k - a.length + j by omega]
/-- A stub, with whatever behind it. -/
theorem stub_read (s : ByteArray) (f : Nat) (hs : s.size ≤ 4000) (hf : f < 4294967296) (x : ByteArray) : rdOk (stubB s f ++ x) ∧ rdU (stubB s f ++ x) = s.size ∧ rdSz (stubB s f ++ x) = (stubB s f).size ∧ (rdH (stubB s f ++ x)).data.toList = s.data.toList.take 40 ∧ (s.size ≤ 40 → rdF (stubB s f ++ x) = 0) ∧ (40 < s.size → rdF (stubB s f ++ x) = f) := by
  have hl : s.data.toList.length = s.size := bytes_size s
  have hz := stubB_size s f
  obtain ⟨r, h1, h2, h3⟩ := stubB_toL s f
  have hrl : r.length = (stubB s f).size - Rec.vsz s.size := by
    have : (stubB s f).data.toList.length = (stubB s f).size := bytes_size _
    rw [h1, List.length_append, Rec.putL_length] at this
    omega
  have ht : (stubB s f ++ x).data.toList = Rec.putL s.size ++ (r ++ x.data.toList) := by rw [app_toL, h1, List.append_assoc]
  have hsz : (stubB s f ++ x).size = (stubB s f).size + x.size := ByteArray.size_append
  obtain ⟨v1, v2⟩ := vrd_put s.size hs (r ++ x.data.toList)
  have hv := Rec.vsz_pos s.size
  have a1 : rdA (stubB s f ++ x) = Rec.vsz s.size := by unfold rdA; rw [ht, v2]
  have a2 : rdU (stubB s f ++ x) = s.size := by unfold rdU; rw [ht, v1]
  have a3 : rdEnd (stubB s f ++ x) = Rec.vsz s.size + min s.size 40 := by unfold rdEnd; rw [a1, a2]
  have a4 : rdSz (stubB s f ++ x) = (stubB s f).size := by
    unfold rdSz
    rw [a2, a3, hz]
    by_cases h : s.size ≤ 40
    · rw [if_neg (by omega), if_pos h]; omega
    · rw [if_pos (by omega), if_neg h]; omega
  have a5 : rdOk (stubB s f ++ x) := ⟨by rw [a1]; omega, by rw [a2]; exact hs, by rw [a4, hsz]; omega⟩
  refine ⟨a5, a2, a4, ?_, fun h => ?_, fun h => ?_⟩
  · unfold rdH
    rw [a1, a3, ByteArray.data_extract, Array.toList_extract, List.extract_eq_take_drop, ht, List.drop_append_of_le_length (by rw [Rec.putL_length]; exact Nat.le_refl _), List.drop_of_length_le (by rw [Rec.putL_length]; exact Nat.le_refl _), List.nil_append, Nat.add_sub_cancel_left]
    rw [List.take_append_of_le_length (by rw [hrl, hz]; split <;> omega), h2]
    rcases Nat.le_total s.size 40 with h | h
    · rw [Nat.min_eq_left h, List.take_of_length_le (by omega), List.take_of_length_le (by omega)]
    · rw [Nat.min_eq_right h]
  · unfold rdF
    rw [a3, a4, hz, if_pos h, show Rec.vsz s.size + s.size - (Rec.vsz s.size + min s.size 40) = 0 by omega]
    rfl
  · unfold rdF
    rw [a3, a4, hz, if_neg (by omega), show Rec.vsz s.size + 44 - (Rec.vsz s.size + min s.size 40) = 4 by omega]
    refine cellB_nmF f hf _ _ (fun j hj => ?_)
    rw [ht, byt_app _ _ _ _ (by rw [Rec.putL_length]; omega), Rec.putL_length, show Rec.vsz s.size + min s.size 40 - Rec.vsz s.size + j = 40 + j by omega]
    unfold byt
    rw [List.getElem?_append_left (by rw [hrl, hz, if_neg (by omega)]; omega), ← h3 h, List.getElem?_drop]
/-- What is found of a stub whose chain is there. -/
theorem stub_found {P : Nat → List UInt8} {m f : Nat} {s x : ByteArray} {G : List Nat} (hs : s.size ≤ 4000) (hf : f < 4294967296) (h : s.size ≤ 40 → G = []) (hc : 40 < s.size → Cn P m f (s.data.toList.drop 40) G) : foundR P m (stubB s f ++ x) = some (s.data.toList, G) := by
  obtain ⟨a1, a2, a3, a4, a5, a6⟩ := stub_read s f hs hf x
  have hl : s.data.toList.length = s.size := bytes_size s
  have hH : (rdH (stubB s f ++ x)).size = min s.size 40 := by rw [rdH_size _ a1, a2]
  unfold foundR
  rw [if_pos a1]
  unfold fdR
  rw [a2, hH, a4]
  by_cases h40 : s.size ≤ 40
  · rw [a5 h40, h h40, show s.size - min s.size 40 = 0 by omega, fnd_end, if_pos rfl, List.take_of_length_le (by omega)]
  · have hcn := hc (by omega)
    have := hcn.fnd 4000 (s.data.toList.take 40) [] (by rw [List.length_drop]; omega)
    rw [List.length_drop, hl, List.take_append_drop, List.nil_append] at this
    rw [a6 (by omega), show s.size - min s.size 40 = s.size - 40 by omega]
    exact this
end Go.Proofs.YthgclfhfipfknaaGreat

namespace Go.Proofs.YthgclfhfipfknaaGreat
open Go.ChangeShapes Go.WideShapes Go.ChangeAt Go.RowKit Go.Maps
set_option linter.unusedVariables false

def mN (N : Int) : Nat := (BitVec.ofInt 64 N).toNat &&& 4095
theorem mN_le (N : Int) : mN N ≤ 4095 := Nat.and_le_right
theorem and4095 (N : Int) : bits BinOp.and IntKind.i64 N 4095 = (mN N : Int) := by
  have h := mN_le N
  unfold bits
  show IntKind.i64.wrap ((BitVec.ofInt 64 N &&& BitVec.ofInt 64 4095).toNat : Int) = _
  rw [BitVec.toNat_and, show (BitVec.ofInt 64 4095).toNat = 4095 by decide]
  show IntKind.i64.wrap ((mN N : Nat) : Int) = _
  rw [IntKind.wrap_i64]
  omega
def plF (B : Nat) (i : Nat) : UInt8 := UInt8.ofNat (B + i)
def plL (B m : Nat) : List UInt8 := (List.range m).map (plF B)
theorem plL_length (B m : Nat) : (plL B m).length = m := by simp [plL]
theorem plL_succ (B m : Nat) : plL B (m + 1) = plL B m ++ [plF B m] := by simp [plL, List.range_succ]
/-- The payload of a step. -/
def plB (N : Int) (B : Nat) (data : ByteArray) : ByteArray := ⟨(plL B (mN N)).toArray⟩ ++ data
def opA (d : Bool) (N : Int) (B : Nat) (data : ByteArray) : Array Value := #[.bool d, .int .i64 N, .int .u8 (B : Int), .string data]
theorem made_bcs (m : Nat) : madeCells #[Value.int .u8 0] m = (Rec.bcs (List.replicate m 0)).toArray := Rec.made_zeros m
theorem pl_set (B k r : Nat) : (plL B k ++ List.replicate (r + 1) 0).set k (plF B k) = plL B (k + 1) ++ List.replicate r 0 := by
  rw [List.set_append_right _ _ (by rw [plL_length]; exact Nat.le_refl _), plL_length, Nat.sub_self, plL_succ, List.replicate_succ, List.set_cons_zero]
  simp
set_option maxRecDepth 100000 in
set_option maxHeartbeats 1000000 in
theorem payload_e (w : World) (d : Bool) (N : Int) (B : Nat) (hB : B < 256) (data : ByteArray) (hd : data.size ≤ 140737488355328) : Calls Tryz.prog 11 #[.agg (opA d N B data)] w fun e w' => e = .returned (.string (plB N B data)) ∧ Below w.heap.size w w' := by
  obtain ⟨m, hm⟩ : ∃ m, mN N = m := ⟨_, rfl⟩
  have hm4 := mN_le N
  have hand := and4095 N
  rw [hm] at hm4 hand
  obtain ⟨i0, hi0, hz0, hz1, hz2⟩ := info_parts Rec.info5'
  obtain ⟨w1, hw1⟩ : ∃ w1, w1 = w.alloc (.cells (opA d N B data) 34) := ⟨_, rfl⟩
  have hr := run_make (P := Tryz.prog) w1 88 5 i0 (.int .u8 0) Tryz.underlying88 hi0 hz0 .i64 .i64 m m (by omega) (by omega) (by rw [hz2]; omega) (by omega)
  simp only [Int.toNat_natCast] at hr
  have hb1 : Below w.heap.size w w1 := by rw [hw1]; exact below_alloc _ _
  have k1 : Blk w1 w.heap.size (opA d N B data) 34 := by rw [hw1]; exact Blk.new _ _ _
  have hs1 : w.heap.size < w1.heap.size := k1.lt
  obtain ⟨W2, hW2⟩ : ∃ W2, W2 = w1.alloc (.cells (madeCells (Value.int IntKind.u8 0).cells (m * i0.size)) 5) := ⟨_, rfl⟩
  have HB2 : Hid (Below w.heap.size w W2) := hide (by rw [hW2]; exact below_trans hb1 (below_alloc _ _))
  have HX2 : Hid (Blk W2 w.heap.size (opA d N B data) 34) := hide (by rw [hW2]; exact k1.later (below_alloc _ _))
  have HZ2 : Hid (Blk W2 w1.heap.size (Rec.bcs (List.replicate m 0)).toArray 5) := hide (by
    rw [hW2, hz1, Nat.mul_one, ← made_bcs]; exact Blk.new _ _ _)
  rw [← hW2, hw1] at hr
  have c1 : w1.cell? ⟨w.heap.size, 1, none⟩ = some (.int .i64 N) := k1.cell 1
  rw [hw1] at c1
  have HP : Hid (plB N B data = ⟨(plL B m).toArray⟩ ++ data) := by show _ = _; unfold plB; rw [hm]
  rw [HP.out]
  have HS1 := hide hs1
  rw [hw1] at HS1 HZ2
  generalize hg : (w.alloc (.cells (opA d N B data) 34)).heap.size = g at *
  have HCat : Hid (∀ V, (Op.stringOp BinOp.add ⟨(plL B m).toArray⟩ data).run Tryz.prog V = .ok (.string (⟨(plL B m).toArray⟩ ++ data)) V) := hide (fun V => run_string_add_sum V _ _ (by rw [ba_size, plL_length]; omega))
  unfold opA at hr c1
  unfold opA
  clear hm k1 HP hb1 hW2 hz1 hz2 hi0 hz0 hw1 hs1
  go_enter Tryz.func11, Tryz.ntmps11
  go_wp2_with fail
  clear hr c1
  go_loopw [4] (fun iv wr => ∃ k r : Nat, iv = .int .i64 (k : Int) ∧ k + r = m ∧ Blk wr g (Rec.bcs (plL B k ++ List.replicate r 0)).toArray 5 ∧ Blk wr w.heap.size (opA d N B data) 34 ∧ Below w.heap.size w wr) (fun iv _ => m - (intOf iv).toNat)
  case atStart => exact ⟨0, m, rfl, by omega, by simpa [plL] using HZ2.out, HX2.out, HB2.out⟩
  case round =>
    obtain ⟨k, r, rfl, hk, hz, hx, hbw⟩ := hrel
    have HZ := hide hz
    have HX := hide hx
    have HB := hide hbw
    cases r with
    | zero =>
      obtain rfl : k = m := by omega
      have l1 : ¬ (k : Int) < (k : Int) := by omega
      have c3 : wr.cell? ⟨w.heap.size, 3, none⟩ = some (.string data) := hx.cell 3
      have hcv := fun V (hV : V = wr) => conv_piece V g 0 k (plL B k) (fun j hj => by
        subst hV
        rw [Nat.zero_add, hz.cell, List.replicate_zero, List.append_nil, Rec.bcs_at _ _ hj]
        simp [byt, hj])
      have hcv := hcv wr rfl
      rw [plL_length] at hcv
      have hcat := HCat.out
      clear hz hx hbw
      go_wp2_with fail
      go_ret
      exact ⟨rfl, HB.out⟩
    | succ r =>
      have l1 : (k : Int) < (m : Int) := by omega
      have l0 : (0 : Int) ≤ (k : Int) := by omega
      have c2 : wr.cell? ⟨w.heap.size, 2, none⟩ = some (.int .u8 (B : Int)) := hx.cell 2
      have hJl : k < (plL B k ++ List.replicate (r + 1) (0 : UInt8)).length := by rw [List.length_append, plL_length, List.length_replicate]; omega
      have cz : wr.cell? ⟨g, k, none⟩ = some (.int .u8 (((plL B k ++ List.replicate (r + 1) (0 : UInt8))[k]'hJl).toNat : Int)) := by rw [hz.cell, Rec.bcs_at _ _ hJl]
      have fz := hz.frozen k
      have w1' : IntKind.i64.wrap ((k : Int) + 1) = ((k + 1 : Nat) : Int) := by rw [IntKind.wrap_i64]; omega
      have hv : ((B : Int) + (k : Int)) % 256 = ((plF B k).toNat : Int) := by
        unfold plF
        rw [UInt8.toNat_ofNat']
        omega
      have hset : Blk (wr.setCell ⟨g, k, none⟩ (.int .u8 (((B : Int) + (k : Int)) % 256))) g (Rec.bcs (plL B (k + 1) ++ List.replicate r 0)).toArray 5 := by
        have := hz.set k (.int .u8 (((B : Int) + (k : Int)) % 256))
        rw [hv, Rec.bcs_set, pl_set] at this
        rw [hv]
        exact this
      have HN := hide (And.intro hset (And.intro (hx.setOther (show w.heap.size ≠ g by have := HS1.out; omega) k (.int .u8 (((B : Int) + (k : Int)) % 256))) (hbw.trans ((Only.setCell wr ⟨g, k, none⟩ (.int .u8 (((B : Int) + (k : Int)) % 256))).below hbw.size (fun j hj => by have := HS1.out; simp at hj; omega)))))
      clear hz hx hbw hset hv w1'
      go_wp2_with fail
      refine ⟨⟨k + 1, r, by simp, by omega, HN.out.1, HN.out.2.1, HN.out.2.2⟩, ?_⟩
      simp [intOf]
      omega
end Go.Proofs.YthgclfhfipfknaaGreat

namespace Go.Proofs.YthgclfhfipfknaaGreat
variable {sv : Value}
open Go.ChangeShapes Go.WideShapes Go.ChangeAt Go.RowKit Go.Maps
set_option linter.unusedVariables false

/-- A payload that is kept: its stub, its chain's first page, its chain. -/
structure Kd where
  st : ByteArray
  f : Nat
  G : List Nat
structure Kp1 (P : Nat → List UInt8) (n : Nat) (s : ByteArray) (x : Kd) : Prop where
  st : s.size ≤ 4000 → x.st = stubB s x.f
  bad : 4000 < s.size → x.G = []
  f4 : x.f < 4294967296
  sh : s.size ≤ 40 → x.G = []
  lg : 40 < s.size → s.size ≤ 4000 → Cn P n x.f (s.data.toList.drop 40) x.G
  gl : x.G.length ≤ 17
theorem Kp1.same {P Q : Nat → List UInt8} {n m : Nat} {s : ByteArray} {x : Kd} (h : Kp1 P n s x) (hq : ∀ k ∈ x.G, Q k = P k) (hm : n ≤ m) : Kp1 Q m s x := ⟨h.st, h.bad, h.f4, h.sh, fun a b => (h.lg a b).same hq hm, h.gl⟩
set_option maxRecDepth 20000 in
theorem put_big (w : World) (t pm n : Nat) {P : Nat → List UInt8} {K : Nat} (h : Tr sv w t pm n P K true) (s : ByteArray) (hs : 4000 < s.size) : Calls Tryz.prog 12 #[.pointer (some ⟨t, 0, none⟩), .string s] w fun e w' => e = .returned (.tuple #[.string ⟨#[]⟩, .int .i64 3]) ∧ Below w.heap.size w w' := by
  have HM := hide (pmayChange_e w _ 4 _ h.mayC)
  rw [show unN 4 = 0 by rfl] at HM
  have l1 : (4000 : Int) < (s.size : Int) := by omega
  clear h hs
  go_enter Tryz.func12, Tryz.ntmps12
  go_wp2_with (first
    | (go_at_call 36; (with_reducible refine Calls.mono HM.out ?_); rintro e w4 ⟨rfl, hb⟩; have HB4 := hide hb; clear hb))
  go_ret2
  exact ⟨rfl, HB4.out⟩
/-- What Put of any payload leaves where no page is free. -/
def PuE (w w' : World) (B0 t pm n base : Nat) (P : Nat → List UInt8) (K : Nat) (N : Nat → Nat) (s : ByteArray) (x : Kd) : Prop := ∃ sv' P' K' n', Sp sv' w' t pm n' P' K' [] N ∧ Sv w' base sv' [] pm ∧ Kb B0 95 w w' ∧ K' ≤ K + 51 ∧ n' = n + x.G.length ∧ x.G.Nodup ∧ (∀ g ∈ x.G, n < g ∧ g ≤ n') ∧ (∀ i, 2 ≤ i → i ≤ n → P' i = P i) ∧ Kp1 P' n' s x
theorem put_s (w : World) (B0 t pm n base : Nat) {P : Nat → List UInt8} {K : Nat} {N : Nat → Nat} (h : Sp sv w t pm n P K [] N) (hs : Sv w base sv [] pm) (s : ByteArray) (hK : K ≤ 70000) (hn : n + 17 ≤ 4096) (h0 : B0 ≤ t ∧ B0 ≤ pm ∧ B0 ≤ base ∧ base ≤ w.heap.size) :
    Calls Tryz.prog 12 #[.pointer (some ⟨t, 0, none⟩), .string s] w fun e w' => ∃ x : Kd, e = .returned (.tuple #[.string x.st, .int .i64 (if s.size ≤ 4000 then 0 else 3)]) ∧ PuE w w' B0 t pm n base P K N s x := by
  have hb0 : B0 ≤ w.heap.size := by omega
  by_cases h4 : s.size ≤ 4000
  · rw [if_pos h4]
    by_cases h40 : s.size ≤ 40
    · refine (put_short w t pm n h.ld.tr s h40).mono ?_
      rintro e w' ⟨rfl, hb⟩
      refine ⟨⟨_, 0, []⟩, rfl, sv, P, K, n, h.later hb, hs.later hb, Kb.of_below hb hb0, by omega, by simp, by simp, by simp, fun _ _ _ => rfl, ⟨fun _ => ?_, fun _ => rfl, by simp, fun _ => rfl, fun a => by omega, by simp⟩⟩
      show _ = stubB s 0
      unfold stubB
      rw [if_pos h40]
    · have hrs : (s.extract 40 s.size).size = s.size - 40 := by rw [ByteArray.size_extract]; omega
      have hM : pcN (s.extract 40 s.size) 240 ≤ 17 := by unfold pcN; rw [hrs]; omega
      refine (put_long w B0 t pm n base h hs s (by omega) h4 hK (by simp; omega) h0).mono ?_
      rintro e w' ⟨rfl, sv', P', K', g1, g2, g3, g4, g5, g6⟩
      have e0 : ∀ k, tkAt n [] k = n + 1 + k := fun k => by unfold tkAt; rw [if_neg (by simp)]; simp
      have hl := tkL_length n [] (pcN (s.extract 40 s.size) 240)
      have hrl : (s.extract 40 s.size).data.toList = s.data.toList.drop 40 := by
        have hl : s.data.toList.length = s.size := bytes_size s
        rw [ByteArray.data_extract, Array.toList_extract, List.extract_eq_take_drop, List.take_of_length_le (by rw [List.length_drop, hl]; exact Nat.le_refl _)]
      rw [hrl] at g4
      rw [List.length_nil, Nat.sub_zero, List.drop_nil] at g1
      rw [List.length_nil, Nat.sub_zero] at g4
      have hmem : ∀ g ∈ tkL n [] (pcN (s.extract 40 s.size) 240), n < g ∧ g ≤ n + pcN (s.extract 40 s.size) 240 := fun g hg => by
        obtain ⟨k, hk, rfl⟩ := List.mem_map.1 hg
        have := List.mem_range.1 hk
        rw [e0]
        omega
      refine ⟨⟨_, tkAt n [] 0, tkL n [] (pcN (s.extract 40 s.size) 240)⟩, rfl, sv', P', K', n + pcN (s.extract 40 s.size) 240, g1, g5, g6, by omega, by rw [hl], tkL_nodup (by simp) (by simp) _, hmem, fun i h2 hi => g3 i h2 hi (fun hm => by have := (hmem i hm).1; omega), ⟨fun _ => ?_, fun a => by omega, by show tkAt n [] 0 < _; have := e0 0; omega, fun a => absurd a h40, fun _ _ => g4, by rw [hl]; exact hM⟩⟩
      show _ = stubB s (tkAt n [] 0)
      unfold stubB
      rw [if_neg h40]
  · rw [if_neg h4]
    refine (put_big w t pm n h.ld.tr s (by omega)).mono ?_
    rintro e w' ⟨rfl, hb⟩
    exact ⟨⟨⟨#[]⟩, 0, []⟩, rfl, sv, P, K, n, h.later hb, hs.later hb, Kb.of_below hb hb0, by omega, by simp, by simp, by simp, fun _ _ _ => rfl, ⟨fun a => absurd a h4, fun _ => rfl, by simp, fun _ => rfl, fun _ a => absurd a h4, by simp⟩⟩
/-- The payloads so far are put in. -/
structure P1 (sv : Value) (w wr : World) (t pm base n : Nat) (P : Nat → List UInt8) (K : Nat) (pl : Nat → ByteArray) (Ks : List Kd) : Prop where
  sp : Sp sv wr t pm n P K [] zN
  ss : Sv wr base sv [] pm
  bel : Below w.heap.size w wr
  k3 : K ≤ 1 + 51 * Ks.length
  n17 : n ≤ 1 + 17 * Ks.length
  kp : ∀ i x, Ks[i]? = some x → Kp1 P n (pl i) x
  nd : (Ks.flatMap Kd.G).Nodup
  bd : ∀ g ∈ Ks.flatMap Kd.G, 2 ≤ g ∧ g ≤ n
  ln : (Ks.flatMap Kd.G).length + 1 = n
  bs : w.heap.size ≤ t ∧ w.heap.size ≤ pm ∧ w.heap.size ≤ base ∧ base ≤ wr.heap.size
theorem P1.later {w wr w' : World} {t pm base n : Nat} {P : Nat → List UInt8} {K : Nat} {pl : Nat → ByteArray} {Ks : List Kd} (h : P1 sv w wr t pm base n P K pl Ks) (hb : Below wr.heap.size wr w') : P1 sv w w' t pm base n P K pl Ks :=
  ⟨h.sp.later hb, h.ss.later hb, below_trans h.bel hb, h.k3, h.n17, h.kp, h.nd, h.bd, h.ln, ⟨h.bs.1, h.bs.2.1, h.bs.2.2.1, Nat.le_trans h.bs.2.2.2 hb.size⟩⟩
/-- The row of stubs. -/
def stV (x : Kd) : Value := .string x.st
def RwS (wr : World) (base : Nat) (v : Value) (Ks : List Kd) : Prop := wr.ownsRow base 9 1 v Ks.length (Ks.map stV)
theorem RwS.keep {wr w' : World} {base : Nat} {v : Value} {Ks : List Kd} {B0 : Nat} (h : RwS wr base v Ks) (hk : Kb B0 95 wr w') : RwS w' base v Ks := by
  unfold RwS at h ⊢
  refine ⟨h.1, ?_⟩
  rcases h.2 with hn | ⟨g, cap, cur, rfl, hb, hgg, rest⟩
  · exact .inl hn
  · exact .inr ⟨g, cap, cur, rfl, hb, hk.kp _ _ _ hgg (by decide) (by decide) (by decide), rest⟩
theorem RwS.later {wr w' : World} {base : Nat} {v : Value} {Ks : List Kd} (h : RwS wr base v Ks) (hb : Below wr.heap.size wr w') : RwS w' base v Ks := h.keep (Kb.of_below (B0 := 0) hb (Nat.zero_le _))
theorem P1.put {w wr w' : World} {t pm base n : Nat} {P : Nat → List UInt8} {K : Nat} {pl : Nat → ByteArray} {Ks : List Kd} {x : Kd} (h : P1 sv w wr t pm base n P K pl Ks) (hp : PuE wr w' w.heap.size t pm n base P K zN (pl Ks.length) x) : ∃ sv' P' K' n', P1 sv' w w' t pm base n' P' K' pl (Ks ++ [x]) ∧ Kb w.heap.size 95 wr w' := by
  obtain ⟨sv', P', K', n', h1, h2, h3, h4, h5, h6, h7, h8, h9⟩ := hp
  have hgl := h9.gl
  have k3 := h.k3
  have n17 := h.n17
  have hln := h.ln
  refine ⟨sv', P', K', n', ⟨h1, h2, h.bel.trans h3.bel, by simp; omega, by simp; omega, fun i y hy => ?_, ?_, fun g hg => ?_, by simp only [List.flatMap_append, List.flatMap_cons, List.flatMap_nil, List.append_nil, List.length_append]; omega, ⟨h.bs.1, h.bs.2.1, h.bs.2.2.1, Nat.le_trans h.bs.2.2.2 h3.bel.size⟩⟩, h3⟩
  · rcases Nat.lt_trichotomy i Ks.length with hi | hi | hi
    · rw [List.getElem?_append_left hi] at hy
      refine (h.kp i y hy).same (fun k hk => ?_) (by omega)
      have hb := h.bd k (List.mem_flatMap.2 ⟨y, List.mem_of_getElem? hy, hk⟩)
      exact h8 k hb.1 hb.2
    · subst hi
      rw [List.getElem?_append_right (Nat.le_refl _), Nat.sub_self] at hy
      obtain rfl : x = y := by simpa using hy
      exact h9
    · rw [List.getElem?_eq_none (by simp; omega)] at hy
      cases hy
  · simp only [List.flatMap_append, List.flatMap_cons, List.flatMap_nil, List.append_nil]
    refine List.nodup_append.2 ⟨h.nd, h6, fun a ha b hb e => ?_⟩
    subst e
    have := (h.bd a ha).2
    have := (h7 a hb).1
    omega
  · simp only [List.flatMap_append, List.flatMap_cons, List.flatMap_nil, List.append_nil, List.mem_append] at hg
    rcases hg with hg | hg
    · have := h.bd g hg; omega
    · have := h7 g hg; have := h.sp.ld.one; omega
/-- Beside an append to the row of stubs. -/
theorem P1.grown {w wr w' : World} {t pm base n : Nat} {P : Nat → List UInt8} {K : Nat} {pl : Nat → ByteArray} {Ks Ls : List Kd} {v : Value} (h : P1 sv w wr t pm base n P K pl Ks) (hr : RwS wr base v Ls) (hg : wr.grownBy w' v.ownBlock) : P1 sv w w' t pm base n P K pl Ks := by
  have ho := Only.of_grown hg
  have hX : ∀ b ∈ v.ownBlock.toList, base ≤ b ∧ ∃ c, Blk wr b c 9 := fun b hb => by
    have e : v.ownBlock = some b := by simpa using hb
    exact ownC_blk hr e
  refine ⟨h.sp.onlyX ho (fun b hb => let ⟨c, hc⟩ := (hX b hb).2; ⟨c, _, hc, by unfold Ot; decide⟩), h.ss.only ho (fun g e hm => ?_) (fun s hs => by cases hs), below_only h.bel ho (fun g hg => Nat.le_trans h.bs.2.2.1 (hX g hg).1), h.k3, h.n17, h.kp, h.nd, h.bd, h.ln, ⟨h.bs.1, h.bs.2.1, h.bs.2.2.1, Nat.le_trans h.bs.2.2.2 ho.size⟩⟩
  obtain ⟨_, c, hc⟩ := hX g hm
  obtain ⟨_, c', hb⟩ := ownC_blk h.ss.row e
  exact blk_ne hb hc (by decide) rfl
theorem wp_appS2 {ops : Array Oper} {rest : List Oper} {o : Oper} {a : Act} {Q : Exit → Act → World → Prop} {w : World} {base n : Nat} {v : Value} {xs : List Value} (hown : w.ownsRow base 9 1 v n xs) {ad : Addr} {m c : Nat} {news : List Value}
    (hl : news.length = m * 1) (hnews : ∀ j u, news[j]? = some u → w.cell? (ad.add j) = some u) (h1 : ∀ u ∈ news, u.oneCell' = true) (hn : (n + m) * 16 ≤ 140737488355328) (hbase : base ≤ w.heap.size) (s z : Operand)
    (hgd : o.guard = none) (ho : o.op = .call { callee := .builtin .append, args := #[s, z], argTypes := #[53, 53] }) (hs : a.eval s = v) (hz : a.eval z = .slice (some ad) m c)
    (hk : ∀ v' w', w'.ownsRow base 9 1 v' (n + m) (xs ++ news) → w.grownBy w' v.ownBlock → wpList Tryz.prog ops Q rest (a.put o.dst v') w') : wpList Tryz.prog ops Q (o :: rest) a w := by
  obtain ⟨i, hi, hz0, hsz, hby⟩ := str_info
  exact wpList_append_own w hgd s z 53 ho base 9 i _ 1 16 Tryz.underlying53 hi hz0 hsz hby rfl (by omega) v n xs hs hown ad m c news hz hl hnews h1 (by simp only [maxLen]; omega) hn hbase (fun v' w' h2 h3 h4 => hk v' w' h2 h3)
theorem rw_app {w' : World} {base : Nat} {v' : Value} {Ks : List Kd} {x : Kd} (h : w'.ownsRow base 9 1 v' (Ks.length + 1) (Ks.map stV ++ [.string x.st])) : RwS w' base v' (Ks ++ [x]) := by
  unfold RwS
  rw [List.length_append, List.length_singleton, List.map_append]
  exact h
/-- So many payloads were taken out. -/
structure P2 (sv : Value) (w wr : World) (t pm base n : Nat) (P : Nat → List UInt8) (K : Nat) (pl : Nat → ByteArray) (Ks : List Kd) (F : List Nat) (j : Nat) : Prop where
  sp : Sp sv wr t pm n P K F zN
  ss : Sv wr base sv [] pm
  bel : Below w.heap.size w wr
  k3 : K ≤ 1 + 51 * Ks.length + 51 * j
  kp : ∀ i x, j ≤ i → Ks[i]? = some x → Kp1 P n (pl i) x
  nd : (F ++ (Ks.drop j).flatMap Kd.G).Nodup
  bd : ∀ g ∈ (Ks.drop j).flatMap Kd.G, 2 ≤ g ∧ g ≤ n
  ln : (F ++ (Ks.drop j).flatMap Kd.G).length + 1 = n
  bs : w.heap.size ≤ t ∧ w.heap.size ≤ pm ∧ w.heap.size ≤ base ∧ base ≤ wr.heap.size
theorem P1.turn {w wr : World} {t pm base n : Nat} {P : Nat → List UInt8} {K : Nat} {pl : Nat → ByteArray} {Ks : List Kd} (h : P1 sv w wr t pm base n P K pl Ks) : P2 sv w wr t pm base n P K pl Ks [] 0 :=
  ⟨h.sp, h.ss, h.bel, by have := h.k3; omega, fun i x _ hx => h.kp i x hx, by simpa using h.nd, by simpa using h.bd, by simpa using h.ln, h.bs⟩
theorem P2.later {w wr w' : World} {t pm base n : Nat} {P : Nat → List UInt8} {K : Nat} {pl : Nat → ByteArray} {Ks : List Kd} {F : List Nat} {j : Nat} (h : P2 sv w wr t pm base n P K pl Ks F j) (hb : Below wr.heap.size wr w') : P2 sv w w' t pm base n P K pl Ks F j :=
  ⟨h.sp.later hb, h.ss.later hb, below_trans h.bel hb, h.k3, h.kp, h.nd, h.bd, h.ln, ⟨h.bs.1, h.bs.2.1, h.bs.2.2.1, Nat.le_trans h.bs.2.2.2 hb.size⟩⟩
theorem drop_kd {Ks : List Kd} {j : Nat} {x : Kd} (hx : Ks[j]? = some x) : Ks.drop j = x :: Ks.drop (j + 1) := by
  obtain ⟨hj, rfl⟩ := List.getElem?_eq_some_iff.1 hx
  exact List.drop_eq_getElem_cons hj
theorem P2.skip {w wr : World} {t pm base n : Nat} {P : Nat → List UInt8} {K : Nat} {pl : Nat → ByteArray} {Ks : List Kd} {F : List Nat} {j : Nat} {x : Kd} (h : P2 sv w wr t pm base n P K pl Ks F j) (hx : Ks[j]? = some x) (h4 : 4000 < (pl j).size) : P2 sv w wr t pm base n P K pl Ks F (j + 1) := by
  have hG := (h.kp j x (Nat.le_refl _) hx).bad h4
  have e : (Ks.drop j).flatMap Kd.G = (Ks.drop (j + 1)).flatMap Kd.G := by rw [drop_kd hx, List.flatMap_cons, hG, List.nil_append]
  exact ⟨h.sp, h.ss, h.bel, by have := h.k3; omega, fun i y hi hy => h.kp i y (by omega) hy, by rw [← e]; exact h.nd, by rw [← e]; exact h.bd, by rw [← e]; exact h.ln, h.bs⟩
theorem P2.drop {w wr w' : World} {t pm base n : Nat} {P : Nat → List UInt8} {K : Nat} {pl : Nat → ByteArray} {Ks : List Kd} {F : List Nat} {j : Nat} {x : Kd} (h : P2 sv w wr t pm base n P K pl Ks F j) (hx : Ks[j]? = some x) (hd : DpE wr w' w.heap.size t pm n base P K F zN x.G) : (∃ sv' P' K', P2 sv' w w' t pm base n P' K' pl Ks (x.G ++ F) (j + 1)) ∧ Kb w.heap.size 95 wr w' := by
  obtain ⟨sv', P', K', h1, h2, h3, h4, h5⟩ := hd
  have hgl := (h.kp j x (Nat.le_refl _) hx).gl
  have hnd := h.nd
  have hln := h.ln
  have hbd := h.bd
  rw [drop_kd hx, List.flatMap_cons] at hnd hln hbd
  have hp : (F ++ (x.G ++ (Ks.drop (j + 1)).flatMap Kd.G)).Perm ((x.G ++ F) ++ (Ks.drop (j + 1)).flatMap Kd.G) := by
    rw [← List.append_assoc]
    exact List.perm_append_comm.append_right _
  have k3 := h.k3
  refine ⟨⟨sv', P', K', h1, h4, h.bel.trans h5.bel, by omega, fun i y hi hy => ?_, hp.nodup_iff.1 hnd, fun g hg => hbd g (List.mem_append_right _ hg), by rw [← hp.length_eq]; exact hln, ⟨h.bs.1, h.bs.2.1, h.bs.2.2.1, Nat.le_trans h.bs.2.2.2 h5.bel.size⟩⟩, h5⟩
  refine (h.kp i y (by omega) hy).same (fun k hk => ?_) (Nat.le_refl _)
  have hkm : k ∈ (Ks.drop (j + 1)).flatMap Kd.G := by
    refine List.mem_flatMap.2 ⟨y, ?_, hk⟩
    have : (Ks.drop (j + 1))[i - (j + 1)]? = some y := by rw [List.getElem?_drop, show j + 1 + (i - (j + 1)) = i by omega]; exact hy
    exact List.mem_of_getElem? this
  refine h3 k (hbd k (List.mem_append_right _ hkm)).1 (fun hkx => ?_)
  have := (List.nodup_append.1 (List.nodup_append.1 hnd).2.1).2.2 k hkx k hkm
  exact this rfl
/-- What the calls answer of a payload that is kept. -/
theorem P2.found {w wr : World} {t pm base n : Nat} {P : Nat → List UInt8} {K : Nat} {pl : Nat → ByteArray} {Ks : List Kd} {F : List Nat} {j : Nat} {x : Kd} (h : P2 sv w wr t pm base n P K pl Ks F j) (hx : Ks[j]? = some x) (h4 : (pl j).size ≤ 4000) : foundR P n x.st = some ((pl j).data.toList, x.G) ∧ rdSz x.st = x.st.size ∧ x.G.Nodup ∧ (∀ g ∈ x.G, g ∉ F) ∧ x.st.size ≤ 60 := by
  have hk := h.kp j x (Nat.le_refl _) hx
  have e := hk.st h4
  have e2 : stubB (pl j) x.f ++ (⟨#[]⟩ : ByteArray) = stubB (pl j) x.f := ByteArray.ext (by simp)
  have hf := stub_found (P := P) (m := n) (x := ⟨#[]⟩) h4 hk.f4 hk.sh (fun a => hk.lg a h4)
  have hr := stub_read (pl j) x.f h4 hk.f4 ⟨#[]⟩
  rw [e2] at hf hr
  have hnd := h.nd
  rw [drop_kd hx, List.flatMap_cons] at hnd
  have hn := List.nodup_append.1 hnd
  have hsz := stubB_size (pl j) x.f
  have hv := Rec.vsz_pos (pl j).size
  rw [e]
  refine ⟨hf, hr.2.2.1, (List.nodup_append.1 hn.2.1).1, fun g hg hF => hn.2.2 g hF g (List.mem_append_left _ hg) rfl, ?_⟩
  rw [hsz]
  split <;> omega
end Go.Proofs.YthgclfhfipfknaaGreat
