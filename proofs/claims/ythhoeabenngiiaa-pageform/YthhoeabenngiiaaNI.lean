/- The walk of PageChanges of a page that may be. -/
import Derived.Test.YthhoeabenngiiaaNH
namespace Go.Proofs.Ythhoeabenngiiaa
open Go.ChangeShapes Go.WideShapes Go.ChangeAt Go.RowKit
set_option linter.unusedVariables false

theorem put_any (p : Option Addr) (n cap m : Nat) (S : Nat → ByteArray) (d : ByteArray) (hm : m ≤ n) (hc : n ≤ cap) (hp : p = none → cap = 0) (hn : n ≤ 1000000) (w : World) (h : StrP w p n S) :
    Calls Try.prog 25 #[.slice p n cap, .int .i64 (m : Int), .string d] w fun e w' => (∃ p, (∃ c, e = .returned (.slice p (n + 1) c) ∧ n + 1 ≤ c) ∧ StrP w' p (n + 1) (putS S m d)) ∧ Below w.heap.size w w' := by
  by_cases h0 : n = 0
  · subst h0
    obtain rfl : m = 0 := by omega
    exact put_none p cap hp S d w
  · obtain ⟨g, rfl, hst⟩ := h (by omega)
    exact put_some g n cap m S d hm hc hn w hst
theorem atL {P : Program} {ops : Array Oper} {Q : Exit → Act → World → Prop} {rest : List Oper} {a : Act} {w : World} {d : Option Nat} {x : Operand} {t : TypeId} {ps : String} {af : Array Edge} {g : Option (Nat × Bool)} (h : wpList P ops Q (⟨d, .load 23 x, t, ps, af, g⟩ :: rest) a w) : wpList P ops Q (⟨d, .load 23 x, t, ps, af, g⟩ :: rest) a w := h
theorem atS {P : Program} {ops : Array Oper} {Q : Exit → Act → World → Prop} {rest : List Oper} {a : Act} {w : World} {d : Option Nat} {x y : Operand} {t : TypeId} {ps : String} {af : Array Edge} {g : Option (Nat × Bool)} (h : wpList P ops Q (⟨d, .store 23 x y, t, ps, af, g⟩ :: rest) a w) : wpList P ops Q (⟨d, .store 23 x y, t, ps, af, g⟩ :: rest) a w := h
theorem equal_page {l : List UInt8} (hl : l.length = 256) (V : World) : (Op.equal 23 (.agg (bc l)) (.agg (bc l))).run Try.prog V = .ok true V := by
  have h := eq_page hl V
  simp only [binOp, Sem.run_bind] at h
  cases hq : (Op.equal 23 (.agg (bc l)) (.agg (bc l))).run Try.prog V with
  | ok b W =>
    rw [hq] at h
    simp [Result.andThen] at h
    obtain ⟨rfl, rfl⟩ := h
    rfl
  | halt a b => rw [hq] at h; simp [Result.andThen] at h
theorem neq_page_any {l : List UInt8} (hl : l.length = 256) : ∀ V, (binOp .neq 23 (.agg (bc l)) (.agg (bc l))).run Try.prog V = .ok (.bool false) V := fun V => neq_page hl V

theorem str_set {w1 X : World} {p : Option Addr} {n : Nat} {S : Nat → ByteArray} {g : Nat} {is : Bool} {k Lk : Int} {sv : Value} {L : List (Nat × Obj)} (h : StrP X p n S) (hm : Pg w1 X ((g, bodyC is k Lk sv) :: L)) {v : Value} : StrP (X.setCell ⟨g, 3, none⟩ v) p n S := by
  intro h0
  obtain ⟨b, rfl, hs⟩ := h h0
  refine ⟨b, rfl, fun i hi => ?_⟩
  have hb : b ≠ g := fun e => by
    subst e
    have h1 := (res4 (hm.here (b, bodyC is k Lk sv) (.head _))).1.1
    have h2 := hs 0 h0
    rw [Nat.zero_add, h1] at h2
    cases h2
  rw [World.cell?_of_block (w := X) (Below.heap_setCell _ _ _ _ hb)]
  exact hs i hi

set_option maxHeartbeats 8000000 in
set_option maxRecDepth 10000 in
theorem changes_ok (l : List UInt8) (hl : l.length = 256) (k Lk n : Nat) (S : Nat → ByteArray) (hn : n ≤ 250) (i : Int) (c : ByteArray) (L : Nat) (lin lout lset lm : List UInt8) (ein eout eset em : Int)
    (hlin : lin.length = 256) (hlout : lout.length = 256) (hlset : lset.length = 256) (hlm : lm.length = 256)
    (hRd : ∀ V, Calls Try.prog 8 #[.agg (bc l)] V fun e w' => ∃ p, (∃ cc, e = .returned (bodyV true (k : Int) (Lk : Int) (.slice p n cc)) ∧ n ≤ cc ∧ (p = none → cc = 0)) ∧ StrP w' p n S ∧ Below V.heap.size V w')
    (hIn : ∀ V, Calls Try.prog 20 #[.agg (bc l), .int .i64 i, .string c] V fun e w' => e = .returned (.tuple #[.agg (bc lin), .int .i64 ein]) ∧ Below V.heap.size V w')
    (hDl : ∀ V, Calls Try.prog 21 #[.agg (bc l), .int .i64 i] V fun e w' => e = .returned (.tuple #[.agg (bc lout), .int .i64 eout]) ∧ Below V.heap.size V w')
    (hSl : ∀ V, Calls Try.prog 22 #[.agg (bc l), .int .u32 (L : Int)] V fun e w' => e = .returned (.tuple #[.agg (bc lset), .int .i64 eset]) ∧ Below V.heap.size V w')
    (hTs : ∀ V p cc, StrP V p n S → Calls Try.prog 23 #[bodyV true (k : Int) (L : Int) (.slice p n cc)] V fun e w' => e = .returned (.tuple #[.agg (bc lset), .int .i64 eset]) ∧ Below V.heap.size V w')
    (hB : ∀ m : Nat, i = (m : Int) → m < n → ∀ V p cc, StrP V p (n - 1) (outS S m) → Calls Try.prog 23 #[bodyV true (k : Int) (Lk : Int) (.slice p (n - 1) cc)] V fun e w' => e = .returned (.tuple #[.agg (bc lout), .int .i64 eout]) ∧ Below V.heap.size V w')
    (hNB : (i < 0 ∨ (n : Int) ≤ i) → lout = zs ∧ eout = 4)
    (hP : ∀ m : Nat, i = (m : Int) → m ≤ n → ∀ V p cc, StrP V p (n + 1) (putS S m c) → Calls Try.prog 23 #[bodyV true (k : Int) (Lk : Int) (.slice p (n + 1) cc)] V fun e w' => e = .returned (.tuple #[.agg (bc lm), .int .i64 em]) ∧ Below V.heap.size V w')
    (hNP : (i < 0 ∨ (n : Int) < i) → lm = zs ∧ em = 4)
    (hC0 : c.size = 0 → lin = zs ∧ ein = 2) (hC1 : 60 < c.size → lin = zs ∧ ein = 3) (hC2 : c.size ≠ 0 → ¬ 60 < c.size → lin = lm ∧ ein = em) (w : World) :
    Calls Try.prog 5 #[.agg (bc l), .int .i64 i, .string c, .int .u32 (L : Int)] w fun e w' => e = .returned (.bool true) ∧ Below w.heap.size w w' := by
  have HP0 : Hid (PAt (w.alloc (.cells (bc l) 23)) w.heap.size l) := PAt.new w l
  have HW0 := hide (new_below w (pgO l) rfl)
  have HL := hide hl
  have HLin := hide hlin
  have HLout := hide hlout
  have HLset := hide hlset
  have HLm := hide hlm
  have HRd := hide hRd
  have HIn := hide hIn
  have HDl := hide hDl
  have HSl := hide hSl
  have HTs := hide hTs
  have HB := hide hB
  have HNB := hide hNB
  have HPu := hide hP
  have HNP := hide hNP
  have HC0 := hide hC0
  have HC1 := hide hC1
  have HC2 := hide hC2
  have hz := zero_page.1
  have hbu := built_page
  have hnq1 := neq_page_any hlset
  have HQ2 := hide (neq_page_any hlout)
  have HQ3 := hide (fun V => eq_page hlin V)
  have HN := hide hn
  clear hl hlin hlout hlset hlm hRd hIn hDl hSl hTs hB hNB hP hNP hC0 hC1 hC2 hn
  go_enter Try.func5, Try.ntmps5
  go_upto_region 5 with (first
    | ((with_reducible refine atL ?_); refine wp_loadP HL.out HP0.out _ (by rfl) (by rfl) (by rfl) ?_)
    | ((with_reducible refine atL ?_); refine wp_loadP HL.out (HPp.out _ HM.out.below) _ (by rfl) (by rfl) (by rfl) ?_)
    | (go_at_call 8; with_reducible refine Calls.mono (HRd.out _) ?_; rintro e w1 ⟨p, ⟨cc, rfl, hcap, hpn⟩, hstr, hb⟩; have HCap := hide (And.intro hcap hpn); have HW1 := hide (below_trans HW0.out hb); have HPp := hide (fun V (hV : Below w1.heap.size w1 V) => (HP0.out.later hb).later hV); have HS := hide (fun V (hV : Below w1.heap.size w1 V) => StrP.later hstr hV); have HM := hide (Pg.start w1 (bodyC true (k : Int) (Lk : Int) (.slice p n cc))); clear hb hcap hpn hstr HP0)
    | (go_at_call 20; with_reducible refine Calls.mono (HIn.out _) ?_; rintro e w2 ⟨rfl, hb⟩; have HM := hide ((HM.out.later hb).new (pgO zs)); clear hb)
    | (go_at_call 21; with_reducible refine Calls.mono (HDl.out _) ?_; rintro e w3 ⟨rfl, hb⟩; have HM := hide ((HM.out.later hb).new (pgO zs)); clear hb)
    | (go_at_call 22; with_reducible refine Calls.mono (HSl.out _) ?_; rintro e w4 ⟨rfl, hb⟩; have HM := hide ((HM.out.later hb).new (pgO zs)); clear hb)
    | ((with_reducible refine atS ?_); refine wp_storeP HLin.out zs_length (HM.out.here (_, pgO zs) (List.mem_cons_self ..)) _ _ (by rfl) (by rfl) (by rfl) (by rfl) ?_; intro Wa hp hb hk; have HM := hide (HM.out.put hp hb hk); clear hp hb hk)
    | ((with_reducible refine atS ?_); refine wp_storeP HLout.out zs_length (HM.out.here (_, pgO zs) (List.mem_cons_self ..)) _ _ (by rfl) (by rfl) (by rfl) (by rfl) ?_; intro Wb hp hb hk; have HM := hide (HM.out.put hp hb hk); clear hp hb hk)
    | ((with_reducible refine atS ?_); refine wp_storeP HLset.out zs_length (HM.out.here (_, pgO zs) (List.mem_cons_self ..)) _ _ (by rfl) (by rfl) (by rfl) (by rfl) ?_; intro Wc hp hb hk; have HM := hide (HM.out.put hp hb hk); clear hp hb hk))
  obtain ⟨⟨d0, d1, d2, d3⟩, _⟩ := res4 (HM.out.here (w1.heap.size, bodyC true (k : Int) (Lk : Int) (.slice p n cc)) (.tail _ (.tail _ (.tail _ (.head _)))))
  have HM' := hide (HM.out.new (bodyC true (k : Int) (L : Int) (.slice p n cc)))
  go_upto_region 10 with (first
    | (go_at_call 23; with_reducible refine Calls.mono (HTs.out _ _ _ (HS.out _ HM'.out.below)) ?_; rintro e w5 ⟨rfl, hb⟩; have HM := hide ((HM'.out.later hb).new (pgO zs)); clear hb)
    | ((with_reducible refine atS ?_); refine wp_storeP HLset.out zs_length (HM.out.here (_, pgO zs) (List.mem_cons_self ..)) _ _ (by rfl) (by rfl) (by rfl) (by rfl) ?_; intro Wd hp hb hk; have HM := hide (HM.out.put hp hb hk); clear hp hb hk))
  clear d0 d1 d2 d3
  have HMz := hide (HM.out.new (pgO zs))
  have HA4 := hide (HM.out.here (w4.heap.size, pgO lset) (.tail _ (.tail _ (.head _))))
  have HA5 := hide (HM.out.here (w5.heap.size, pgO lset) (.head _))
  go_upto_region 13 with (first
    | ((with_reducible refine atL ?_); refine wp_loadP HLset.out HA4.out _ (by rfl) (by rfl) (by rfl) ?_)
    | ((with_reducible refine atL ?_); refine wp_loadP HLset.out HA5.out _ (by rfl) (by rfl) (by rfl) ?_)
    | ((with_reducible refine atS ?_); refine wp_storeP zs_length zs_length (HMz.out.here (_, pgO zs) (.head _)) _ _ (by rfl) (by rfl) (by rfl) (by rfl) ?_; intro We hp hb hk; have HM := hide (HMz.out.put hp hb hk); clear hp hb hk))
  clear hnq1 HA4 HA5 HMz HM'
  have HMs := hide (HM.out.sub (.cons_cons _ (.cons _ (.cons _ (.cons _ (.cons_cons _ (.cons_cons _ (.cons_cons _ .slnil))))))) : Pg w1 We [(Wd.heap.size, pgO zs), (w3.heap.size, pgO lout), (w2.heap.size, pgO lin), (w1.heap.size, bodyC true (k : Int) (Lk : Int) (.slice p n cc))])
  clear HM
  have HM := HMs
  clear HMs
  go_cut [100] from 92 to 99 (fun v100 V => v100 = .bool (decide ((0 : Int) ≤ i ∧ i < (n : Int))) ∧ We = V)
  case first =>
    obtain ⟨⟨d0, d1, d2, d3⟩, _⟩ := res4 (HM.out.here (w1.heap.size, bodyC true (k : Int) (Lk : Int) (.slice p n cc)) (.tail _ (.tail _ (.tail _ (.head _)))))
    by_cases h0 : (0 : Int) ≤ i
    · by_cases h1 : i < (n : Int)
      · have hd := hide (show decide ((0 : Int) ≤ i ∧ i < (n : Int)) = true from decide_eq_true ⟨h0, h1⟩)
        go_wp2_with fail
        go_meet
        exact ⟨by rw [hd.out], rfl⟩
      · have hd := hide (show decide ((0 : Int) ≤ i ∧ i < (n : Int)) = false from decide_eq_false fun h => h1 h.2)
        have g1 : decide (i < (n : Int)) = false := decide_eq_false h1
        go_wp2_with fail
        go_meet
        exact ⟨by rw [hd.out], rfl⟩
    · have hd := hide (show decide ((0 : Int) ≤ i ∧ i < (n : Int)) = false from decide_eq_false fun h => h0 h.1)
      have g0 : decide ((0 : Int) ≤ i) = false := decide_eq_false h0
      go_wp2_with fail
      go_meet
      exact ⟨by rw [hd.out], rfl⟩
  case' rest =>
    obtain ⟨rfl, rfl⟩ := hcut
    obtain ⟨b1, hb1⟩ : ∃ b, decide ((0 : Int) ≤ i ∧ i < (n : Int)) = b := ⟨_, rfl⟩
    rw [hb1]
    have HB1 := hide hb1
    clear hb1
  go_upto_if 100 with fail
  go_cut [18] from 92 to 111 (fun v18 V => v18 = .int .i64 eout ∧ Pg w1 V [(Wd.heap.size, pgO lout), (w3.heap.size, pgO lout), (w2.heap.size, pgO lin), (w1.heap.size, bodyC true (k : Int) (Lk : Int) (.slice p n cc))])
  case first =>
    obtain ⟨⟨d0, d1, d2, d3⟩, _⟩ := res4 (HM.out.here (w1.heap.size, bodyC true (k : Int) (Lk : Int) (.slice p n cc)) (.tail _ (.tail _ (.tail _ (.head _)))))
    cases b1 with
    | false =>
      have hno := of_decide_eq_false HB1.out
      obtain ⟨rfl, rfl⟩ := HNB.out (by omega)
      clear hno
      go_wp2_with fail
      go_meet
      exact ⟨rfl, HM.out⟩
    | true =>
      obtain ⟨h0, h1⟩ := of_decide_eq_true HB1.out
      obtain ⟨m, rfl⟩ : ∃ m : Nat, i = (m : Int) := ⟨i.toNat, by omega⟩
      have l0 : (0 : Int) ≤ (m : Int) := by omega
      have hmn : m < n := by omega
      have HTo := hide (HB.out m rfl hmn)
      have HMb := hide (HM.out.new (bodyC true (k : Int) (Lk : Int) (.slice p n cc)))
      obtain ⟨gs, hgs, _⟩ := HS.out _ HMb.out.below (by omega)
      subst hgs
      have hst : StrAt (We.alloc (bodyC true (k : Int) (Lk : Int) (.slice (some ⟨gs, 0, none⟩) n cc))) gs 0 n S := by
        obtain ⟨g', h1, h2⟩ := HS.out _ HMb.out.below (by omega)
        cases h1
        exact h2
      have HOut := hide (out_walk gs n cc m S hmn HCap.out.1 (by have := HN.out; omega) _ hst)
      obtain ⟨⟨x0, x1, x2, x3⟩, _⟩ := res4 (HMb.out.here (w1.heap.size, bodyC true (k : Int) (Lk : Int) (.slice (some ⟨gs, 0, none⟩) n cc)) (.tail _ (.tail _ (.tail _ (.tail _ (.head _))))))
      clear hmn hst h0 h1
      go_wp2_with (first
        | (go_at_call 24; with_reducible refine Calls.mono HOut.out ?_; rintro e w6 ⟨⟨q, ⟨cq, rfl, hcq⟩, hsq⟩, hb⟩; have HM6 := hide (HMb.out.later hb); have HSq := hide hsq; obtain ⟨⟨y0, y1, y2, y3⟩, f0, f1, f2, f3⟩ := res4 (HM6.out.here (We.heap.size, bodyC true (k : Int) (Lk : Int) (.slice (some ⟨gs, 0, none⟩) n cc)) (List.mem_cons_self ..)); clear hb hsq hcq)
        | (go_at_call 23; with_reducible refine Calls.mono (HTo.out _ _ _ (str_set HSq.out HM6.out)) ?_; rintro e w7 ⟨rfl, hb⟩; have HM7 := hide ((HM6.out.cell 3 _).later hb).swap; clear hb)
        | ((with_reducible refine atS ?_); refine wp_storeP HLout.out zs_length (HM7.out.here (_, pgO zs) (.head _)) _ _ (by rfl) (by rfl) (by rfl) (by rfl) ?_; intro Wf hp hb hk; have HM8 := hide (HM7.out.put hp hb hk); clear hp hb hk))
      go_meet
      exact ⟨rfl, HM8.out.sub (.cons_cons _ (.cons _ (List.Sublist.refl _)))⟩
  case rest =>
    obtain ⟨rfl, hm⟩ := hcut
    have HM := hide hm
    obtain ⟨X1, hX1⟩ : ∃ v, v = wc := ⟨_, rfl⟩
    subst hX1
    clear hm
    have hnq2 := HQ2.out
    have HA3 := hide (HM.out.here (w3.heap.size, pgO lout) (.tail _ (.head _)))
    have HA9 := hide (HM.out.here (Wd.heap.size, pgO lout) (.head _))
    have HMz := hide (HM.out.new (pgO zs))
    go_upto_region 20 with (first
      | ((with_reducible refine atL ?_); refine wp_loadP HLout.out HA3.out _ (by rfl) (by rfl) (by rfl) ?_)
      | ((with_reducible refine atL ?_); refine wp_loadP HLout.out HA9.out _ (by rfl) (by rfl) (by rfl) ?_)
      | ((with_reducible refine atS ?_); refine wp_storeP zs_length zs_length (HMz.out.here (_, pgO zs) (.head _)) _ _ (by rfl) (by rfl) (by rfl) (by rfl) ?_; intro Wg hp hb hk; have HM := hide (HMz.out.put hp hb hk); clear hp hb hk))
    clear hnq2 HA3 HA9 HMz
    have HMs := hide (HM.out.sub (.cons_cons _ (.cons _ (.cons _ (.cons_cons _ (.cons_cons _ .slnil))))) : Pg w1 Wg [(X1.heap.size, pgO zs), (w2.heap.size, pgO lin), (w1.heap.size, bodyC true (k : Int) (Lk : Int) (.slice p n cc))])
    clear HM
    have HM := HMs
    clear HMs
    go_cut [129] from 121 to 128 (fun v129 V => v129 = .bool (decide ((0 : Int) ≤ i ∧ i ≤ (n : Int))) ∧ Wg = V)
    case first =>
      obtain ⟨⟨d0, d1, d2, d3⟩, _⟩ := res4 (HM.out.here (w1.heap.size, bodyC true (k : Int) (Lk : Int) (.slice p n cc)) (.tail _ (.tail _ (.head _))))
      by_cases h0 : (0 : Int) ≤ i
      · by_cases h1 : i ≤ (n : Int)
        · have hd := hide (show decide ((0 : Int) ≤ i ∧ i ≤ (n : Int)) = true from decide_eq_true ⟨h0, h1⟩)
          go_wp2_with fail
          go_meet
          exact ⟨by rw [hd.out], rfl⟩
        · have hd := hide (show decide ((0 : Int) ≤ i ∧ i ≤ (n : Int)) = false from decide_eq_false fun h => h1 h.2)
          have g1 : decide (i ≤ (n : Int)) = false := decide_eq_false h1
          go_wp2_with fail
          go_meet
          exact ⟨by rw [hd.out], rfl⟩
      · have hd := hide (show decide ((0 : Int) ≤ i ∧ i ≤ (n : Int)) = false from decide_eq_false fun h => h0 h.1)
        have g0 : decide ((0 : Int) ≤ i) = false := decide_eq_false h0
        go_wp2_with fail
        go_meet
        exact ⟨by rw [hd.out], rfl⟩
    case' rest =>
      obtain ⟨rfl, rfl⟩ := hcut
      obtain ⟨b2, hb2⟩ : ∃ b, decide ((0 : Int) ≤ i ∧ i ≤ (n : Int)) = b := ⟨_, rfl⟩
      rw [hb2]
      have HB2 := hide hb2
      clear hb2
    go_upto_if 129 with fail
    go_cut [18] from 121 to 141 (fun v18 V => v18 = .int .i64 em ∧ Pg w1 V [(X1.heap.size, pgO lm), (w2.heap.size, pgO lin), (w1.heap.size, bodyC true (k : Int) (Lk : Int) (.slice p n cc))])
    case first =>
      obtain ⟨⟨d0, d1, d2, d3⟩, _⟩ := res4 (HM.out.here (w1.heap.size, bodyC true (k : Int) (Lk : Int) (.slice p n cc)) (.tail _ (.tail _ (.head _))))
      cases b2 with
      | false =>
        have hno := of_decide_eq_false HB2.out
        obtain ⟨rfl, rfl⟩ := HNP.out (by omega)
        clear hno
        go_wp2_with fail
        go_meet
        exact ⟨rfl, HM.out⟩
      | true =>
        obtain ⟨h0, h1⟩ := of_decide_eq_true HB2.out
        obtain ⟨m, rfl⟩ : ∃ m : Nat, i = (m : Int) := ⟨i.toNat, by omega⟩
        have l0 : (0 : Int) ≤ (m : Int) := by omega
        have hmn : m ≤ n := by omega
        have HTo := hide (HPu.out m rfl hmn)
        have HMb := hide (HM.out.new (bodyC true (k : Int) (Lk : Int) (.slice p n cc)))
        have HOut := hide (put_any p n cc m S c hmn HCap.out.1 HCap.out.2 (by have := HN.out; omega) _ (HS.out _ HMb.out.below))
        obtain ⟨⟨x0, x1, x2, x3⟩, _⟩ := res4 (HMb.out.here (w1.heap.size, bodyC true (k : Int) (Lk : Int) (.slice p n cc)) (.tail _ (.tail _ (.tail _ (.head _)))))
        clear hmn h0 h1
        go_wp2_with (first
          | (go_at_call 25; with_reducible refine Calls.mono HOut.out ?_; rintro e w6 ⟨⟨q, ⟨cq, rfl, hcq⟩, hsq⟩, hb⟩; have HM6 := hide (HMb.out.later hb); have HSq := hide hsq; obtain ⟨⟨y0, y1, y2, y3⟩, f0, f1, f2, f3⟩ := res4 (HM6.out.here (Wg.heap.size, bodyC true (k : Int) (Lk : Int) (.slice p n cc)) (List.mem_cons_self ..)); clear hb hsq hcq)
          | (go_at_call 23; with_reducible refine Calls.mono (HTo.out _ _ _ (str_set HSq.out HM6.out)) ?_; rintro e w7 ⟨rfl, hb⟩; have HM7 := hide ((HM6.out.cell 3 _).later hb).swap; clear hb)
          | ((with_reducible refine atS ?_); refine wp_storeP HLm.out zs_length (HM7.out.here (_, pgO zs) (.head _)) _ _ (by rfl) (by rfl) (by rfl) (by rfl) ?_; intro Wf hp hb hk; have HM8 := hide (HM7.out.put hp hb hk); clear hp hb hk))
        go_meet
        exact ⟨rfl, HM8.out.sub (.cons_cons _ (.cons _ (List.Sublist.refl _)))⟩
    case rest =>
      obtain ⟨rfl, hm⟩ := hcut
      have HM := hide hm
      obtain ⟨X2, hX2⟩ : ∃ v, v = wc := ⟨_, rfl⟩
      subst hX2
      clear hm
      go_upto_region 24 with fail
      go_cut [143] from 142 to 142 (fun v143 V => v143 = .bool (decide (c.size = 0)) ∧ X2 = V)
      case first =>
        by_cases hc0 : c.size = 0
        · have hd := hide (show decide (c.size = 0) = true from decide_eq_true hc0)
          obtain rfl := str_empty hc0
          go_wp2_with fail
          go_meet
          exact ⟨by rw [hd.out], rfl⟩
        · have hd := hide (show decide (c.size = 0) = false from decide_eq_false hc0)
          have hne := str_ne hc0
          go_wp2_with fail
          go_meet
          exact ⟨by rw [hd.out], rfl⟩
      case' rest =>
        obtain ⟨rfl, rfl⟩ := hcut
        obtain ⟨b3, hb3⟩ : ∃ b, decide (c.size = 0) = b := ⟨_, rfl⟩
        rw [hb3]
        have HB3 := hide hb3
        clear hb3
      go_upto_if 143 with fail
      go_cut [18] from 142 to 148 (fun v18 V => v18 = .int .i64 ein ∧ Pg w1 V [(X1.heap.size, pgO lin), (w2.heap.size, pgO lin), (w1.heap.size, bodyC true (k : Int) (Lk : Int) (.slice p n cc))])
      case first =>
        cases b3 with
        | true =>
          obtain ⟨rfl, rfl⟩ := HC0.out (of_decide_eq_true HB3.out)
          go_wp2_with (first
            | ((with_reducible refine atS ?_); refine wp_storeP zs_length HLm.out (HM.out.here (_, pgO lm) (.head _)) _ _ (by rfl) (by rfl) (by rfl) (by rfl) ?_; intro Wf hp hb hk; have HM8 := hide (HM.out.put hp hb hk); clear hp hb hk))
          go_meet
          exact ⟨rfl, HM8.out⟩
        | false =>
          have hc0 := of_decide_eq_false HB3.out
          by_cases hc1 : 60 < c.size
          · obtain ⟨rfl, rfl⟩ := HC1.out hc1
            have l6 : (60 : Int) < (c.size : Int) := by omega
            go_wp2_with (first
              | ((with_reducible refine atS ?_); refine wp_storeP zs_length HLm.out (HM.out.here (_, pgO lm) (.head _)) _ _ (by rfl) (by rfl) (by rfl) (by rfl) ?_; intro Wf hp hb hk; have HM8 := hide (HM.out.put hp hb hk); clear hp hb hk))
            go_meet
            exact ⟨rfl, HM8.out⟩
          · obtain ⟨rfl, rfl⟩ := HC2.out hc0 hc1
            have l6 : ¬ (60 : Int) < (c.size : Int) := by omega
            go_wp2_with fail
            go_meet
            exact ⟨rfl, HM.out⟩
      case rest =>
        obtain ⟨rfl, hm⟩ := hcut
        have HM := hide hm
        obtain ⟨X3, hX3⟩ : ∃ v, v = wc := ⟨_, rfl⟩
        subst hX3
        clear hm
        have heq3 := HQ3.out
        have HA2 := hide (HM.out.here (w2.heap.size, pgO lin) (.tail _ (.head _)))
        have HA9 := hide (HM.out.here (X1.heap.size, pgO lin) (.head _))
        go_wp2_with (first
          | ((with_reducible refine atL ?_); refine wp_loadP HLin.out HA2.out _ (by rfl) (by rfl) (by rfl) ?_)
          | ((with_reducible refine atL ?_); refine wp_loadP HLin.out HA9.out _ (by rfl) (by rfl) (by rfl) ?_)
          | (go_at_call 17; with_reducible refine Calls.mono (awake_walk _) ?_; rintro e w8 ⟨rfl, hb⟩; have HX := hide (below_trans (HW1.out.trans (HM.out.below.mono HW1.out.size)) hb); clear hb))
        go_ret
        exact ⟨by simp, HX.out⟩
end Go.Proofs.Ythhoeabenngiiaa
