/- Commit, on a disk that may crash. -/
import Derived.Test.YteocmhbllckpjaaGreatXG
import Derived.Test.YteocmhbllckpjaaGreatXH
namespace Go.Proofs.YteocmhbllckpjaaGreat
open Go.ChangeShapes Go.WideShapes Go.ChangeAt Go.RowKit
open Go.ChangeMaps (setBlock)
set_option linter.unusedVariables false

theorem fra_commit {n m c : Nat} {N : Nat → Nat} {L : Nat → List UInt8} (hm : m = max n 1) (hc : c ≤ 4096) (hN : ∀ j, j < n → 1 ≤ N j ∧ N j ≤ c) (hL : ∀ j, j < n → (L j).length = 256) : Fra (fN n N) (fE m c) (fP n L) where
  num := fun k => by unfold fN; split; have := hN k (by assumption); omega; omega
  en := fun k => by unfold fE; split <;> omega
  ne := fun k => by
    unfold fN fE
    by_cases h : k + 1 < m
    · left; rw [if_pos (by omega)]; have := hN k (by omega); omega
    · right; rw [if_neg h]; omega
  pg := fun k => by unfold fP; split; exact hL k (by assumption); exact z256_length
theorem okT93 : OkT 93 := by unfold OkT; decide
theorem okT167 : OkT 167 := by unfold OkT; decide
/-- A log that is opened, counted at its last mark. -/
theorem count_last (w : World) (base b : Nat) (D : DS) (who : Nat → Nat) (R : Rep w base b D who) {r : Int} {i : Nat} (h : JI r D i) {K : Nat} {N E : Nat → Nat} {P : Nat → List UInt8} (hL : Lgf (seenOf D nmJ) K N E P) :
    Calls Tryz.prog 44 #[lgV b (txt (seenOf D nmJ) K) K, .int .i64 (K : Int)] w fun x w' => x = .returned (.tuple #[.int .i64 (cntL (seenOf D nmD) K E : Nat), .bool true]) ∧ w.grownBy w' none := by
  unfold cntL
  rcases Nat.eq_zero_or_pos K with rfl | hp
  · rw [if_pos rfl]
    exact count_zero w base b D who R h _ 0
  · obtain ⟨k, rfl⟩ : ∃ k, K = k + 1 := ⟨K - 1, by omega⟩
    have he : E k ≠ 0 := by rcases hL.end_ with e | e; omega; simpa using e
    have := count_at w b (txt (seenOf D nmJ) (k + 1)) (k + 1) (by have := hL.few; omega) N E P hL.frs k (by omega)
    rw [if_neg he] at this
    rw [if_neg (by omega)]
    refine Calls.mono (by rw [show ((k + 1 : Nat) : Int) = (k : Int) + 1 by omega]; exact this) ?_
    rintro x w' ⟨rfl, hg⟩
    refine ⟨?_, hg⟩
    rw [show k + 1 - 1 = k by omega, show ((E k - 1 : Nat) : Int) = (E k : Int) - 1 by omega]
    simp [he]
/-- A commit is made. -/
def CoOk (w : World) (D : DS) (base b : Nat) (r : Int) (i : Nat) (w' : World) (db : List UInt8) (K : Nat) (N E : Nat → Nat) (P : Nat → List UInt8) : Prop := ∃ D' who' i', RM w D w' base b D' who' ∧ JI r D' i' ∧ i' ≤ i + 100 ∧ D'.chs = [] ∧ Lgx (seenOf D' nmJ) K N E P ∧ seenOf D' nmD = db ∧ (D.fuse = 0 → D'.fuse = 0)
/-- Something crashed. -/
def CoCr (w : World) (D : DS) (base b : Nat) (r : Int) (i : Nat) (w' : World) (Q : List UInt8 → List UInt8 → Prop) : Prop := D.fuse ≠ 0 ∧ ∃ D' who' i', RM w D w' base b D' who' ∧ JX r D' i' ∧ i' ≤ i + 100 ∧ D'.down = true ∧ Safe Q (psOf D')

set_option maxHeartbeats 8000000 in
set_option maxRecDepth 20000 in
theorem commitW_x (w : World) (base b : Nat) (D : DS) (who : Nat → Nat) (R : Rep w base b D who) {r : Int} {i : Nat} (h : JI r D i) (hch : D.chs = []) {K : Nat} {N E : Nat → Nat} {P : Nat → List UInt8} (hL : Lgx (seenOf D nmJ) K N E P) (ha : Fra N E P) (hend : K = 0 ∨ E (K - 1) ≠ 0)
    (old count : Nat) (hold : old = cntL (seenOf D nmD) K E) (ho : old ≤ 10000) (hcount : count ≤ 4096) (p : Option Addr) (n cap m : Nat) (hm : m = max n 1) (Np : Nat → Nat) (L : Nat → List UInt8) (hp : PgA w p n (fun k => (Np k : Int)) L) (hn : n ≤ 60) (hi : i ≤ 10000) (hKm : K + m ≤ 180) (hr : (((seenOf D nmD).length + 64 + 320 * (K + m) : Nat) : Int) ≤ r) (hmay : MayF old count n (fun k => (Np k : Int))) (hN : ∀ j, j < n → 1 ≤ Np j ∧ Np j ≤ count) (hLl : ∀ j, j < n → (L j).length = 256) :
    Calls Tryz.prog 20 #[.pointer (some ⟨b, 0, none⟩), .int .i64 (count : Int), .slice p n cap] w fun e w' =>
      (e = .returned (.tuple #[.int .i64 ((K + m : Nat) : Int), .int .i64 0]) ∧ CoOk w D base b r i w' (seenOf D nmD) (K + m) (ext K N (fN n Np)) (ext K E (fE m count)) (ext K P (fP n L))) ∨
      (e = .returned (.tuple #[.int .i64 0, .int .i64 7]) ∧ CoCr w D base b r i w' (GoodG (seenOf D nmD) K m (ext K N (fN n Np)) (ext K E (fE m count)) (ext K P (fP n L)))) := by
  have hLg := hL.lgf (by omega) ha hend
  have hF := fra_ext (K := K) ha (fra_commit hm hcount hN hLl)
  have hLx : Lgx (seenOf D nmJ) K (ext K N (fN n Np)) (ext K E (fE m count)) (ext K P (fP n L)) := hL.congr (fun k hk => ⟨(ext_lt hk).symm, (ext_lt hk).symm, (ext_lt hk).symm⟩)
  have hrun := grow_run (m := m) hF.pg (s := psOf D) hch (ps_clean h.toJX hch nmD) (ps_clean h.toJX hch nmJ) hLx
  have HOp := hideJ (fun V (hV : w.grownBy V none) => open_w V base b D who (R.keep hV) h hLg)
  have HCt : Hid (∀ V, w.grownBy V none → Calls Tryz.prog 44 #[.agg #[.pointer (some ⟨b, 0, none⟩), .string (bstr (txt (seenOf D nmJ) K)), .int .i64 (K : Int)], .int .i64 (K : Int)] V fun x w' => x = .returned (.tuple #[.int .i64 (old : Int), .bool true]) ∧ V.grownBy w' none) := fun V hV => by
    rw [hold]; exact count_last V base b D who (R.keep hV) h hLg
  have HMf : Hid (∀ V, w.grownBy V none → Calls Tryz.prog 46 #[.int .i64 (old : Int), .int .i64 (count : Int), .slice p n cap] V fun e w' => e = .returned (.bool true) ∧ V.grownBy w' none) := fun V hV => by
    have := mayFollow_j V (old : Int) (count : Int) (by omega) p n cap (fun k => (Np k : Int)) L (hp.grown hV) (by omega)
    rw [mayB_iff.2 hmay] at this
    exact this
  have HFo := hideJ (fun V (hV : w.grownBy V none) => framesOf_w V count hcount p n cap m hm Np L (hp.grown hV) hn)
  obtain ⟨T, hT⟩ : ∃ T, T = bstr (txt (seenOf D nmJ) K) := ⟨_, rfl⟩
  obtain ⟨S, hS⟩ : ∃ S, S = grwS K m (ext K N (fN n Np)) (ext K E (fE m count)) (ext K P (fP n L)) := ⟨_, rfl⟩
  have HGr : Hid (∀ V g, FrM V g m (fun k => fcl (fN n Np k : Int) (fP n L k) (fE m count k) false) → Calls Tryz.prog 49 #[.agg #[.pointer (some ⟨b, 0, none⟩), .string T, .int .i64 (K : Int)], .slice (some ⟨g, 0, none⟩) m m] V fun e w' => (∃ q c', e = .returned (.slice q (2 + m + 3) c') ∧ StA w' b q (2 + m + 3) S) ∧ V.grownBy w' none) := fun V g hf => by
    rw [hS]
    exact grow_w V b T K m (by omega) _ _ _ hF g (hf.congr (fun j hj => by rw [ext_ge, ext_ge, ext_ge]))
  have ok1 : ∀ k, k < 2 + m + 3 → (S k).ok (vw (seenOf D) S k) := fun k hk => by rw [hS]; exact grw_ok hF.pg hKm _ k hk
  have fit1 : ∀ k, k < 2 + m + 3 → (S k).fits r (vw (seenOf D) S k) := fun k hk => by rw [hS]; exact grw_fits hF.pg _ hr k hk
  rw [← hS] at hrun
  have h0 := h.fuse.1
  have HR := hideJ R
  have HI93 := hideJ info93
  have HT93 := hideJ okT93
  rw [← hT] at HCt
  have HOp2 : Hid (∀ V, w.grownBy V none → Calls Tryz.prog 42 #[.pointer (some ⟨b, 0, none⟩)] V fun e w' => e = .returned (.tuple #[.agg #[.pointer (some ⟨b, 0, none⟩), .string T, .int .i64 (K : Int)], .int .i64 0]) ∧ V.grownBy w' none) := fun V hV => by rw [hT]; exact HOp.out V hV
  obtain ⟨G, hG⟩ : ∃ G, G = GoodG (seenOf D nmD) K m (ext K N (fN n Np)) (ext K E (fE m count)) (ext K P (fP n L)) := ⟨_, rfl⟩
  rw [← hG] at hrun ⊢
  have hwK : IntKind.i64.wrap ((K : Int) + (m : Int)) = (K : Int) + (m : Int) := by rw [IntKind.wrap_i64]; omega
  have HEq : Hid (((K + m : Nat) : Int) = (K : Int) + (m : Int)) := by show _ = _; omega
  have HZ := hideJ (fun V => alloc_new V (.cells #[.pointer none, .string ⟨#[]⟩, .int .i64 0] 93))
  by_cases f1 : D.fuse = 0 ∨ ((2 + m + 3 : Nat) : Int) < D.fuse
  · have HDo : Hid (∀ V q c', w.grownBy V none → StA V b q (2 + m + 3) S → Calls Tryz.prog 48 #[.slice q (2 + m + 3) c'] V fun e w' => e = .returned (.int .i64 0) ∧ ∃ D' who', Dok r V D base b w' S (2 + m + 3) i D' who') := fun V q c' hV hst => do_ok V base b D who (R.keep hV) h q (2 + m + 3) c' S hst (by omega) fit1 ok1 f1
    have HEnd : Hid (∀ V w' D' who', w.grownBy V none → Dok r V D base b w' S (2 + m + 3) i D' who' → CoOk w D base b r i w' (seenOf D nmD) (K + m) (ext K N (fN n Np)) (ext K E (fE m count)) (ext K P (fP n L))) := fun V w' D' who' hV hd => by
      have hc2 : D'.chs = [] := by
        have := congrArg PS.cs hd.ps
        rw [hrun.2.1] at this
        exact this
      have hk : ∀ nm, seenOf D' nm = (psOf D').K nm := fun nm => (ps_clean hd.ji.toJX hc2 nm).symm
      refine ⟨D', who', _, ((RM.start R).grown hV).trans hd.rm, hd.ji, by omega, hc2, ?_, ?_, fun hz => by rw [hd.fuse, if_pos hz]⟩
      · rw [hk, hd.ps]; exact hrun.2.2.2.1
      · rw [hk, hd.ps]; exact hrun.2.2.1
    generalize CoOk w D base b r i = CO at HEnd ⊢
    clear R h hp hmay hold hN hn hi hL hm hF ok1 fit1 hS ho hcount hr hch hrun h0 f1 hLg hLx hLl hend hKm ha hT hG HOp
    go_enter Tryz.func20, Tryz.ntmps20
    go_wp2_with (first
      | (go_at_call 42; (with_reducible refine Calls.mono (HOp2.out _ (grown_refl _)) ?_); rintro e w1 ⟨rfl, hg⟩; have HG1 := hideJ hg; clear hg)
      | ((with_reducible refine at93S ?_); refine wp_storeB (c := #[.pointer (some ⟨b, 0, none⟩), .string T, .int .i64 (K : Int)]) HI93.out (by rfl) three_one (HZ.out _) _ _ (by rfl) (by rfl) (by rfl) (by rfl) ?_; intro W2 hb2 ho2; have HB2 := hideJ hb2; have HG2 := hideJ (grown_only (grown_trans' HG1.out (World.grownBy_alloc _ _ _)) ho2 HG1.out.size); have c2 := (Blk.cell hb2 2).trans (show _ = some (Value.int .i64 (K : Int)) from rfl); clear hb2 ho2)
      | ((with_reducible refine at93L ?_); refine wp_loadB (c := #[.pointer (some ⟨b, 0, none⟩), .string T, .int .i64 (K : Int)]) HI93.out u93 HB2.out _ (by rfl) (by rfl) (by rfl) ?_)
      | (go_at_call 44; (with_reducible refine Calls.mono (HCt.out _ HG2.out) ?_); rintro e w3 ⟨rfl, hg⟩; have HG3 := hideJ (grown_trans' HG2.out hg); have HB3 := hideJ (Blk.grown HB2.out hg); clear hg)
      | (go_at_call 46; (with_reducible refine Calls.mono (HMf.out _ HG3.out) ?_); rintro e w4 ⟨rfl, hg⟩; have HG4 := hideJ (grown_trans' HG3.out hg); have HB4 := hideJ (Blk.grown HB3.out hg); clear hg)
      | (go_at_call 47; (with_reducible refine Calls.mono (HFo.out _ HG4.out) ?_); rintro e w5 ⟨⟨g5, rfl, hge, hf5⟩, hg⟩; have HF5 := hideJ hf5; have HG5 := hideJ (grown_trans' HG4.out hg); have HB5 := hideJ (Blk.grown HB4.out hg); clear hg hf5 hge)
      | ((with_reducible refine at93L ?_); refine wp_loadB (c := #[.pointer (some ⟨b, 0, none⟩), .string T, .int .i64 (K : Int)]) HI93.out u93 HB5.out _ (by rfl) (by rfl) (by rfl) ?_)
      | (go_at_call 49; (with_reducible refine Calls.mono (HGr.out _ _ HF5.out) ?_); rintro e w6 ⟨⟨q6, c6, rfl, hst6⟩, hg⟩; have HS6 := hideJ hst6; have HG6 := hideJ (grown_trans' HG5.out hg); have HB6 := hideJ (Blk.grown HB5.out hg); clear hg hst6)
      | (go_at_call 48; (with_reducible refine Calls.mono (HDo.out _ _ _ HG6.out HS6.out) ?_); rintro e w7 ⟨rfl, D7, who7, hd7⟩; have HE7 := hideJ (HEnd.out _ _ _ _ HG6.out hd7); have c7 := (Blk.cell (hd7.rm.blk (HR.out.keep HG6.out) HB6.out HT93.out) 2).trans (show _ = some (Value.int .i64 (K : Int)) from rfl); clear hd7))
    go_ret2
    exact .inl ⟨by rw [HEq.out]; rfl, HE7.out⟩
  · have HDo : Hid (∀ V q c', w.grownBy V none → StA V b q (2 + m + 3) S → Calls Tryz.prog 48 #[.slice q (2 + m + 3) c'] V fun e w' => e = .returned (.int .i64 7) ∧ ∃ D' who', Dcr r V D base b w' G i (2 + m + 3) D' who') := fun V q c' hV hst => do_cr V base b D who (R.keep hV) h q (2 + m + 3) c' S hst (by omega) fit1 ok1 f1 hrun.1
    have HEnd : Hid (∀ V w' D' who', w.grownBy V none → Dcr r V D base b w' G i (2 + m + 3) D' who' → CoCr w D base b r i w' G) := fun V w' D' who' hV hd =>
      ⟨by omega, D', who', _, ((RM.start R).grown hV).trans hd.rm, hd.jx, by omega, hd.down, hd.safe⟩
    clear R h hp hmay hold hN hn hi hL hm hF ok1 fit1 hS ho hcount hr hch hrun h0 f1 hLg hLx hLl hend hKm ha hT hG HOp
    go_enter Tryz.func20, Tryz.ntmps20
    go_wp2_with (first
      | (go_at_call 42; (with_reducible refine Calls.mono (HOp2.out _ (grown_refl _)) ?_); rintro e w1 ⟨rfl, hg⟩; have HG1 := hideJ hg; clear hg)
      | ((with_reducible refine at93S ?_); refine wp_storeB (c := #[.pointer (some ⟨b, 0, none⟩), .string T, .int .i64 (K : Int)]) HI93.out (by rfl) three_one (HZ.out _) _ _ (by rfl) (by rfl) (by rfl) (by rfl) ?_; intro W2 hb2 ho2; have HB2 := hideJ hb2; have HG2 := hideJ (grown_only (grown_trans' HG1.out (World.grownBy_alloc _ _ _)) ho2 HG1.out.size); have c2 := (Blk.cell hb2 2).trans (show _ = some (Value.int .i64 (K : Int)) from rfl); clear hb2 ho2)
      | ((with_reducible refine at93L ?_); refine wp_loadB (c := #[.pointer (some ⟨b, 0, none⟩), .string T, .int .i64 (K : Int)]) HI93.out u93 HB2.out _ (by rfl) (by rfl) (by rfl) ?_)
      | (go_at_call 44; (with_reducible refine Calls.mono (HCt.out _ HG2.out) ?_); rintro e w3 ⟨rfl, hg⟩; have HG3 := hideJ (grown_trans' HG2.out hg); have HB3 := hideJ (Blk.grown HB2.out hg); clear hg)
      | (go_at_call 46; (with_reducible refine Calls.mono (HMf.out _ HG3.out) ?_); rintro e w4 ⟨rfl, hg⟩; have HG4 := hideJ (grown_trans' HG3.out hg); have HB4 := hideJ (Blk.grown HB3.out hg); clear hg)
      | (go_at_call 47; (with_reducible refine Calls.mono (HFo.out _ HG4.out) ?_); rintro e w5 ⟨⟨g5, rfl, hge, hf5⟩, hg⟩; have HF5 := hideJ hf5; have HG5 := hideJ (grown_trans' HG4.out hg); have HB5 := hideJ (Blk.grown HB4.out hg); clear hg hf5 hge)
      | ((with_reducible refine at93L ?_); refine wp_loadB (c := #[.pointer (some ⟨b, 0, none⟩), .string T, .int .i64 (K : Int)]) HI93.out u93 HB5.out _ (by rfl) (by rfl) (by rfl) ?_)
      | (go_at_call 49; (with_reducible refine Calls.mono (HGr.out _ _ HF5.out) ?_); rintro e w6 ⟨⟨q6, c6, rfl, hst6⟩, hg⟩; have HS6 := hideJ hst6; have HG6 := hideJ (grown_trans' HG5.out hg); have HB6 := hideJ (Blk.grown HB5.out hg); clear hg hst6)
      | (go_at_call 48; (with_reducible refine Calls.mono (HDo.out _ _ _ HG6.out HS6.out) ?_); rintro e w7 ⟨rfl, D7, who7, hd7⟩; have HE7 := hideJ (HEnd.out _ _ _ _ HG6.out hd7); have c7 := (Blk.cell (hd7.rm.blk (HR.out.keep HG6.out) HB6.out HT93.out) 2).trans (show _ = some (Value.int .i64 (K : Int)) from rfl); clear hd7))
    go_ret2
    exact .inr ⟨rfl, HE7.out⟩
end Go.Proofs.YteocmhbllckpjaaGreat
