/- The cells of a page gone over, left early, and once more. -/
import Derived.Test.YthhoeabenngiiaaOA
import Derived.Test.YthhoeabenngiiaaNF
namespace Go.Proofs.Ythhoeabenngiiaa
open Go.ChangeShapes Go.WideShapes Go.ChangeAt Go.RowKit Go.Shelf
set_option linter.unusedVariables false
attribute [local go_sem] Oper.semAt_some

/-- What stands in memory all along. -/
structure Gn (w : World) (l : List UInt8) (pw : Option Addr) (c cap : Nat) (early : Int) (W : World) : Prop where
  gb : Below w.heap.size w W
  gsz : w.heap.size + 5 ≤ W.heap.size
  g1 : Boxed W (w.heap.size + 1) 25 (.slice pw c cap)
  g2 : Boxed W (w.heap.size + 1 + 1) 3 (.int .i64 early)
  g3 : Boxed W (w.heap.size + 1 + 1 + 1) 4 (.bool false)
  gp : PAt W (w.heap.size + 1 + 1 + 1 + 1) l
theorem Gn.go {w : World} {l : List UInt8} {pw : Option Addr} {c cap : Nat} {early : Int} {W0 V W : World} (h : Gn w l pw c cap early W0) (hb : Below W0.heap.size W0 V) (hb2 : Below W0.heap.size V W) : Gn w l pw c cap early W := by
  have hb3 := hb.trans hb2
  have hs := h.gsz
  have k : ∀ b, b < W0.heap.size → W.heap[b]? = W0.heap[b]? := hb3.block
  exact ⟨h.gb.trans (hb3.mono (by omega)), Nat.le_trans hs hb3.size, (k _ (by omega)).trans h.g1, (k _ (by omega)).trans h.g2, (k _ (by omega)).trans h.g3, (k _ (by omega)).trans h.gp⟩
theorem box_go {W0 V : World} {b : Nat} {t : TypeId} {v : Value} (hb : Below W0.heap.size W0 V) (h : Boxed W0 b t v) : Boxed V b t v := (hb.block b h.lt).trans h
def TwoQ (id : Nat) (R : Act → Act → World → Prop) (a : Act) (e : Exit) (a' : Act) (w' : World) : Prop := (e = .normal ∨ e = .exit id) ∧ R a a' w'
/-- Between two rounds; behind one that leaves; behind the loop. -/
def GoI (W0 : World) (pre : List Nat) (W : World) : Prop := pre = List.range pre.length ∧ Below W0.heap.size (W0.alloc (.cells #[.int .i64 0] 3)) W ∧ Boxed W W0.heap.size 3 (.int .i64 (pre.length : Int))
def GoX (t : Nat) (W0 : World) (cc : Code) (pre : List Nat) (W : World) : Prop := (cc = .exit 2 ∧ t = 0 ∧ GoI W0 pre W) ∨ (cc = .ret ∧ ¬ ∃ k, pre = List.range k)
def GoR (t c : Nat) (W0 : World) (A A' : Act) (V : World) : Prop := ∃ D m : Nat, A' = { A with defers := { target := .collected D, args := #[] } :: A.defers } ∧ W0.heap.size + 1 ≤ D ∧ V.heap[D]? = some (.deferred (some [])) ∧ Below W0.heap.size (W0.alloc (.cells #[.int .i64 0] 3)) V ∧ Boxed V W0.heap.size 3 (.int .i64 (m : Int)) ∧ m ≤ c ∧ (t = 1 → m = c)
theorem goI_own (W0 : World) : OwnFrom (W0.alloc (.cells #[.int .i64 0] 3)).heap.size (GoI W0) :=
  OwnFrom.and (ownFrom_pure _ _) (OwnFrom.and (ownFrom_below (by simp) (by simp)) (Own.from (boxed_own _ _ (fun pre : List Nat => .int .i64 (pre.length : Int))) _))
theorem goX_own (t : Nat) (W0 : World) (cc : Code) : OwnFrom (W0.alloc (.cells #[.int .i64 0] 3)).heap.size (GoX t W0 cc) := by
  rintro s X Y row (⟨a, b, d⟩ | h) hg hr
  · exact .inl ⟨a, b, goI_own W0 s X Y row d hg hr⟩
  · exact .inr h
theorem mono_two {F : Fence} {n : Nat} {P : Program} {cd : Code} {Q : Exit → Act → World → Prop} {a : Act} {w : World} {id : Nat} (R : Act → Act → World → Prop) (h1 : ∀ a w, Q .normal a w → Q (.exit id) a w) (h0 : ∀ a' w', R a a' w' → Q .normal a' w')
    (h : cd.wpIn F n P (TwoQ id R a) a w) : cd.wpIn F n P Q a w :=
  Code.wpIn_mono (fun e a' w' ⟨he, hr⟩ => by
    rcases he with rfl | rfl
    · exact h0 _ _ hr
    · exact h1 _ _ (h0 _ _ hr)) h
set_option maxRecDepth 100000 in
set_option maxHeartbeats 4000000 in
theorem gone_walk (l : List UInt8) (hl : l.length = 256) (c : Nat) (hcv : cntV l = c) (hc : c ≤ 250) (S : Nat → ByteArray) (hS : ∀ k, k < c → 6 + c + sm l (k + 1) ≤ 256 ∧ subS l (6 + c + sm l k) (byt l (6 + k)) = S k)
    (pw : Option Addr) (cap : Nat) (early : Int) (w : World) (hw : StrP w pw c S) :
    Calls Try.prog 16 #[.agg (bc l), .slice pw c cap, .int .i64 early] w fun e w' => e = .returned (.bool true) ∧ Below w.heap.size w w' := by
  have HL := hide hl
  have HCV := hide (And.intro hcv (And.intro hc hS))
  have HW := hide hw
  have HP : Hid (PAt ((((w.alloc (.cells (bc l) 23)).alloc (.cells #[.slice pw c cap] 25)).alloc (.cells #[.int .i64 early] 3)).alloc (.cells #[.bool false] 4)) w.heap.size l) := ((((PAt.new w l).later (new_below _ _ rfl)).later (new_below _ _ rfl)).later (new_below _ _ rfl))
  have HC := hide (cells_fn l hl)
  have hnil : ∀ (V : World) (b : Nat), (binOp BinOp.eql 67 (.func (.func 39) #[] #[.pointer (some ⟨b, 0, none⟩)]) Value.nilFunc).run Try.prog V = .ok (.bool false) V := fun V b => by kernel_rfl
  clear hl hcv hc hS hw
  refine (callsIn_wide (n := 9)).1 ?_
  refine callsIn_of_wp_marks Try.func16 rfl trivial ?_ rfl
  simp only [Try.ntmps16, List.size_toArray, List.length_cons, List.length_nil, Nat.reduceAdd, Nat.reduceSub, Array.replicate_succ, Array.replicate_zero, List.push_toArray, List.append_toArray, List.nil_append, List.cons_append]
  gi_wp2_with (first
    | (refine wpIn_loadP HL.out HP.out _ (by rfl) (by rfl) (by rfl) ?_)
    | (refine ⟨trivial, ?_⟩; gi_at_call 34; refine CallsIn.mono (callsIn_wide.2 (HC.out _)) ?_; rintro e w2 ⟨rfl, rfl⟩))
  have hG : Gn w l pw c cap early ((((((w.alloc (.cells (bc l) 23)).alloc (.cells #[.slice pw c cap] 25)).alloc (.cells #[.int .i64 early] 3)).alloc (.cells #[.bool false] 4)).alloc (.cells (bc l) 23)).alloc (.cells #[.int .i64 0] 3)) := by
    have s1 := Boxed.new (w.alloc (.cells (bc l) 23)) 25 (.slice pw c cap)
    have s2 := Boxed.new ((w.alloc (.cells (bc l) 23)).alloc (.cells #[.slice pw c cap] 25)) 3 (.int .i64 early)
    have s3 := Boxed.new (((w.alloc (.cells (bc l) 23)).alloc (.cells #[.slice pw c cap] 25)).alloc (.cells #[.int .i64 early] 3)) 4 (.bool false)
    have s4 := PAt.new ((((w.alloc (.cells (bc l) 23)).alloc (.cells #[.slice pw c cap] 25)).alloc (.cells #[.int .i64 early] 3)).alloc (.cells #[.bool false] 4)) l
    rw [World.size_alloc] at s1
    rw [World.size_alloc, World.size_alloc] at s2
    rw [World.size_alloc, World.size_alloc, World.size_alloc] at s3
    rw [World.size_alloc, World.size_alloc, World.size_alloc, World.size_alloc] at s4
    exact ⟨below_trans (below_trans (below_trans (below_trans (below_trans (new_below _ _ rfl) (new_below _ _ rfl)) (new_below _ _ rfl)) (new_below _ _ rfl)) (new_below _ _ rfl)) (new_below _ _ rfl), by simp, (((s1.alloc _).alloc _).alloc _).alloc _, ((s2.alloc _).alloc _).alloc _, (s3.alloc _).alloc _, s4.later (new_below _ _ rfl)⟩
  have hT : Boxed ((((((w.alloc (.cells (bc l) 23)).alloc (.cells #[.slice pw c cap] 25)).alloc (.cells #[.int .i64 early] 3)).alloc (.cells #[.bool false] 4)).alloc (.cells (bc l) 23)).alloc (.cells #[.int .i64 0] 3)) (w.heap.size + 1 + 1 + 1 + 1 + 1) 3 (.int .i64 0) := by
    have := Boxed.new (((((w.alloc (.cells (bc l) 23)).alloc (.cells #[.slice pw c cap] 25)).alloc (.cells #[.int .i64 early] 3)).alloc (.cells #[.bool false] 4)).alloc (.cells (bc l) 23)) 3 (.int .i64 0)
    rw [World.size_alloc, World.size_alloc, World.size_alloc, World.size_alloc, World.size_alloc] at this
    exact this
  generalize ((((((w.alloc (.cells (bc l) 23)).alloc (.cells #[.slice pw c cap] 25)).alloc (.cells #[.int .i64 early] 3)).alloc (.cells #[.bool false] 4)).alloc (.cells (bc l) 23)).alloc (.cells #[.int .i64 0] 3)) = W0 at hG hT ⊢
  have HT := hide hT
  have hct := hT.cell
  refine wpIn_loop_rounds 3 ?_
  rw [roundsIn_succ]
  gi_wp2
  refine mono_two (id := 2) (GoR 0 c W0) (fun _ _ h => h) ?post0 ?loop0
  case loop0 =>
    have hW0 : Below W0.heap.size (W0.alloc (.cells #[.int .i64 0] 3)) (W0.alloc (.cells #[.int .i64 0] 3)) := Below.refl _ _
    have HG := hide hG
    refine wpIn_rangeFunc_ownF rfl (by omega) (gf := 39) (lb := #[.pointer (some ⟨w.heap.size + 1 + 1 + 1 + 1, 0, none⟩)]) rfl trivial (enters_of Try.func39 (by kernel_rfl) rfl)
      (cells_stops l HL.out c HCV.out.1 HCV.out.2.1 S HCV.out.2.2 _ (w.heap.size + 1 + 1 + 1 + 1) W0.heap.size (by have := hG.gsz; omega) (W0.alloc (.cells #[.int .i64 0] 3)) (by have := hG.gsz; simp; omega) (hG.gp.later (new_below _ _ rfl))) belowK_t (belowK_b (by simp)) (Below.refl _ _) (fun _ => rfl)
      (GoI W0) (GoX 0 W0) (goI_own W0) (goX_own 0 W0)
      ⟨rfl, Below.refl _ _, Boxed.new W0 3 _⟩
      (fun x => { tmps := #[.agg (bc l), .slice pw c cap, .int .i64 early, .pointer (some ⟨w.heap.size, 0, none⟩), .pointer (some ⟨w.heap.size + 1, 0, none⟩), .pointer (some ⟨w.heap.size + 1 + 1, 0, none⟩), .pointer (some ⟨w.heap.size + 1 + 1 + 1, 0, none⟩), .func (.func 39) #[] #[.pointer (some ⟨w.heap.size + 1 + 1 + 1 + 1, 0, none⟩)], .pointer (some ⟨w.heap.size + 1 + 1 + 1 + 1 + 1, 0, none⟩), .pointer (some ⟨W0.heap.size, 0, none⟩), .int .i64 (x : Int), .string (S x), .agg (bc l), .func (.func 39) #[] #[.pointer (some ⟨w.heap.size + 1 + 1 + 1 + 1, 0, none⟩)], .func (.func 39) #[] #[.pointer (some ⟨w.heap.size + 1 + 1 + 1 + 1, 0, none⟩)], .bool false, .int .i64 0, .bool true, undef, undef, .func (.func 39) #[] #[.pointer (some ⟨w.heap.size + 1 + 1 + 1 + 1, 0, none⟩)], .int .i64 (x : Int), .string (S x), undef, undef, undef, undef, undef, undef, undef, undef, undef, undef, undef, undef, undef, undef, undef, undef, undef, undef, undef, undef, undef, undef, undef, undef, undef, undef, undef, undef, undef, undef, undef, undef, undef, undef, undef], defers := [] }) ?assign ?body ?done ?stop
    case assign =>
      intro lp x W K hK
      simp only [encC]
      gi_wp2
      exact hK
    case body =>
      rintro lp pre x W ⟨hpre0, hB, hn⟩ hlt
      have HPre := hide hpre0
      clear hpre0
      have hGW := HG.out.go (new_below W0 _ rfl) hB
      have hT' := box_go (b := w.heap.size + 1 + 1 + 1 + 1 + 1) ((new_below W0 _ rfl).trans hB) HT.out
      have hc1 := hGW.g1.cell
      have hc2 := hGW.g2.cell
      have hc3 := hGW.g3.cell
      have hf3 := hGW.g3.frozen
      have hct := hT'.cell
      have hcn := hn.cell
      have hfn := hn.frozen
      have hw1 : IntKind.i64.wrap ((pre.length : Int) + 1) = (pre.length : Int) + 1 := by rw [IntKind.wrap_i64]; have := HCV.out.2.1; omega
      by_cases hx : x = pre.length
      · subst hx
        obtain ⟨g, rfl, hst⟩ := (HW.out.later hGW.gb) (by omega)
        have hcs := hst pre.length hlt
        rw [Nat.zero_add] at hcs
        have hl2 : (pre.length : Int) < (c : Int) := by omega
        have hl0 : (0 : Int) ≤ (pre.length : Int) := by omega
        have hk1 : KeepsOthers W (W.setCell ⟨W0.heap.size, 0, none⟩ (.int .i64 ((pre.length : Int) + 1))) := KeepsOthers.setCell _ _ _
        have hK1 : Below W0.heap.size W (W.setCell ⟨W0.heap.size, 0, none⟩ (.int .i64 ((pre.length : Int) + 1))) := (Below.refl _ W).setCell (p := ⟨W0.heap.size, 0, none⟩) (Nat.le_refl _) _
        have hB1 := hB.trans hK1
        have HPre1 : Hid (pre ++ [pre.length] = List.range (pre ++ [pre.length]).length) := by show pre ++ [pre.length] = _; rw [List.length_append, List.length_singleton, List.range_succ, ← HPre.out]
        have hn1 : Boxed (W.setCell ⟨W0.heap.size, 0, none⟩ (.int .i64 ((pre.length : Int) + 1))) W0.heap.size 3 (.int .i64 ((pre ++ [pre.length]).length : Int)) := by
          rw [List.length_append, List.length_singleton, Int.natCast_add]; exact hn.set _
        have hc2' := (HG.out.go (new_below W0 _ rfl) hB1).g2.cell
        have hct' := (box_go (b := w.heap.size + 1 + 1 + 1 + 1 + 1) ((new_below W0 _ rfl).trans hB1) HT.out).cell
        have hcn' := hn1.cell
        rw [List.length_append, List.length_singleton, Int.natCast_add] at hcn'
        have HN1 := hide hn1
        have HB1 := hide hB1
        clear hn1 hB1 hB
        gi_wp2
        all_goals first
          | exact ⟨hk1, Or.inl ⟨rfl, rfl, HPre1.out, HB1.out, HN1.out⟩⟩
          | exact ⟨hk1, hK1, HPre1.out, HB1.out, HN1.out⟩
      · have hx1 : ¬ ((x : Int) = (pre.length : Int)) := by omega
        have hx2 : ¬ ∃ k, pre ++ [x] = List.range k := by
          rintro ⟨k, hk⟩
          have h1 := congrArg List.length hk
          rw [List.length_append, List.length_singleton, List.length_range] at h1
          subst h1
          rw [List.range_succ] at hk
          exact hx (List.append_inj_right' hk rfl |> List.cons.inj |> And.left)
        gi_wp2
        exact ⟨KeepsOthers.setCell _ _ _, Or.inr ⟨rfl, hx2⟩⟩
    case done =>
      rintro D xs V hD rfl ⟨_, hB, hn⟩ hK
      rw [World.size_alloc] at hD
      exact ⟨.inl rfl, D, c, rfl, hD, hK, hB, by rw [List.length_range] at hn; exact hn, Nat.le_refl _, fun _ => rfl⟩
    case stop =>
      rintro D cc pre V hD ⟨k, hk, rfl⟩ (⟨rfl, ht, _, hB, hn⟩ | ⟨_, hno⟩) hK
      · rw [World.size_alloc] at hD
        gi_wp2
        exact ⟨.inr rfl, D, k, rfl, hD, hK, hB, by rw [List.length_range] at hn; exact hn, hk, fun h => absurd h (by decide)⟩
      · exact absurd ⟨k, rfl⟩ hno
  case post0 =>
    rintro a' V ⟨D, m, rfl, hD, hK, hB, hn, hm, _⟩
    have hw0 := hG.gsz
    have hGV := hG.go (new_below W0 _ rfl) hB
    have hTV := box_go ((new_below W0 _ rfl).trans hB) hT
    have hcn := hn.cell
    have hctv := hTV.cell
    have hc1 := hGV.g1.cell
    clear hct hT HT hG
    gi_wp2
    rw [roundsIn_succ]
    have hG := hGV.go (new_below V (.cells #[.int .i64 1] 3) rfl) (Below.refl _ _)
    have hT := Boxed.new V 3 (.int .i64 1)
    have hKD : (V.alloc (.cells #[.int .i64 1] 3)).heap[D]? = some (.deferred (some [])) := by
      rw [(new_below V (.cells #[.int .i64 1] 3) rfl).block D (Array.getElem?_eq_some_iff.1 hK).1]; exact hK
    have hDw : w.heap.size ≤ D := by omega
    clear hGV hTV hcn hctv hc1 hB hn hK
    generalize V.alloc (.cells #[.int .i64 1] 3) = W1 at hG hT hKD ⊢
    generalize V.heap.size = T at hT ⊢
    have HT := hide hT
    have hct := hT.cell
    gi_wp2
    refine mono_two (id := 2) (GoR 1 c W1) (fun _ _ h => h) ?post1 ?loop1
    case loop1 =>
      have hW1 : Below W1.heap.size (W1.alloc (.cells #[.int .i64 0] 3)) (W1.alloc (.cells #[.int .i64 0] 3)) := Below.refl _ _
      have HG := hide hG
      refine wpIn_rangeFunc_ownF rfl (by omega) (gf := 39) (lb := #[.pointer (some ⟨w.heap.size + 1 + 1 + 1 + 1, 0, none⟩)]) rfl trivial (enters_of Try.func39 (by kernel_rfl) rfl)
        (cells_stops l HL.out c HCV.out.1 HCV.out.2.1 S HCV.out.2.2 _ (w.heap.size + 1 + 1 + 1 + 1) W1.heap.size (by have := hG.gsz; omega) (W1.alloc (.cells #[.int .i64 0] 3)) (by have := hG.gsz; simp; omega) (hG.gp.later (new_below _ _ rfl))) belowK_t (belowK_b (by simp)) (Below.refl _ _) (fun _ => rfl)
        (GoI W1) (GoX 1 W1) (goI_own W1) (goX_own 1 W1)
        ⟨rfl, Below.refl _ _, Boxed.new W1 3 _⟩
        (fun x => { tmps := #[.agg (bc l), .slice pw c cap, .int .i64 early, .pointer (some ⟨w.heap.size, 0, none⟩), .pointer (some ⟨w.heap.size + 1, 0, none⟩), .pointer (some ⟨w.heap.size + 1 + 1, 0, none⟩), .pointer (some ⟨w.heap.size + 1 + 1 + 1, 0, none⟩), .func (.func 39) #[] #[.pointer (some ⟨w.heap.size + 1 + 1 + 1 + 1, 0, none⟩)], .pointer (some ⟨T, 0, none⟩), .pointer (some ⟨W1.heap.size, 0, none⟩), .int .i64 (x : Int), .string (S x), .agg (bc l), .func (.func 39) #[] #[.pointer (some ⟨w.heap.size + 1 + 1 + 1 + 1, 0, none⟩)], .func (.func 39) #[] #[.pointer (some ⟨w.heap.size + 1 + 1 + 1 + 1, 0, none⟩)], .bool false, .int .i64 1, .bool true, .int .i64 0, .int .i64 1, .func (.func 39) #[] #[.pointer (some ⟨w.heap.size + 1 + 1 + 1 + 1, 0, none⟩)], .int .i64 (x : Int), .string (S x), undef, undef, undef, undef, undef, undef, undef, undef, undef, undef, undef, undef, undef, undef, undef, undef, undef, undef, undef, undef, undef, undef, undef, undef, undef, undef, .int .i64 0, .bool false, .bool false, undef, undef, undef, undef, .bool false, .int .i64 0], defers := [] }) ?assign ?body ?done ?stop
      case assign =>
        intro lp x W K hK
        simp only [encC]
        gi_wp2
        exact hK
      case body =>
        rintro lp pre x W ⟨hpre0, hB, hn⟩ hlt
        have HPre := hide hpre0
        clear hpre0
        have hGW := HG.out.go (new_below W1 _ rfl) hB
        have hT' := box_go (b := T) ((new_below W1 _ rfl).trans hB) HT.out
        have hc1 := hGW.g1.cell
        have hc2 := hGW.g2.cell
        have hc3 := hGW.g3.cell
        have hf3 := hGW.g3.frozen
        have hct := hT'.cell
        have hcn := hn.cell
        have hfn := hn.frozen
        have hw1 : IntKind.i64.wrap ((pre.length : Int) + 1) = (pre.length : Int) + 1 := by rw [IntKind.wrap_i64]; have := HCV.out.2.1; omega
        by_cases hx : x = pre.length
        · subst hx
          obtain ⟨g, rfl, hst⟩ := (HW.out.later hGW.gb) (by omega)
          have hcs := hst pre.length hlt
          rw [Nat.zero_add] at hcs
          have hl2 : (pre.length : Int) < (c : Int) := by omega
          have hl0 : (0 : Int) ≤ (pre.length : Int) := by omega
          have hk1 : KeepsOthers W (W.setCell ⟨W1.heap.size, 0, none⟩ (.int .i64 ((pre.length : Int) + 1))) := KeepsOthers.setCell _ _ _
          have hK1 : Below W1.heap.size W (W.setCell ⟨W1.heap.size, 0, none⟩ (.int .i64 ((pre.length : Int) + 1))) := (Below.refl _ W).setCell (p := ⟨W1.heap.size, 0, none⟩) (Nat.le_refl _) _
          have hB1 := hB.trans hK1
          have HPre1 : Hid (pre ++ [pre.length] = List.range (pre ++ [pre.length]).length) := by show pre ++ [pre.length] = _; rw [List.length_append, List.length_singleton, List.range_succ, ← HPre.out]
          have hn1 : Boxed (W.setCell ⟨W1.heap.size, 0, none⟩ (.int .i64 ((pre.length : Int) + 1))) W1.heap.size 3 (.int .i64 ((pre ++ [pre.length]).length : Int)) := by
            rw [List.length_append, List.length_singleton, Int.natCast_add]; exact hn.set _
          have hc2' := (HG.out.go (new_below W1 _ rfl) hB1).g2.cell
          have hct' := (box_go (b := T) ((new_below W1 _ rfl).trans hB1) HT.out).cell
          have hcn' := hn1.cell
          rw [List.length_append, List.length_singleton, Int.natCast_add] at hcn'
          have HN1 := hide hn1
          have HB1 := hide hB1
          clear hn1 hB1 hB
          gi_wp2
          all_goals first
            | exact ⟨hk1, hK1, HPre1.out, HB1.out, HN1.out⟩
        · have hx1 : ¬ ((x : Int) = (pre.length : Int)) := by omega
          have hx2 : ¬ ∃ k, pre ++ [x] = List.range k := by
            rintro ⟨k, hk⟩
            have h1 := congrArg List.length hk
            rw [List.length_append, List.length_singleton, List.length_range] at h1
            subst h1
            rw [List.range_succ] at hk
            exact hx (List.append_inj_right' hk rfl |> List.cons.inj |> And.left)
          gi_wp2
          exact ⟨KeepsOthers.setCell _ _ _, Or.inr ⟨rfl, hx2⟩⟩
      case done =>
        rintro D xs V hD rfl ⟨_, hB, hn⟩ hK
        rw [World.size_alloc] at hD
        exact ⟨.inl rfl, D, c, rfl, hD, hK, hB, by rw [List.length_range] at hn; exact hn, Nat.le_refl _, fun _ => rfl⟩
      case stop =>
        rintro D cc pre V hD ⟨k, hk, rfl⟩ (⟨rfl, ht, _, hB, hn⟩ | ⟨_, hno⟩) hK
        · rw [World.size_alloc] at hD
          exact absurd ht (by decide)
        · exact absurd ⟨k, rfl⟩ hno
  
    case post1 =>
      rintro a' U ⟨D2, m2, rfl, hD2, hK2, hB2, hn2, hm2, hmc⟩
      have hmc' := hmc rfl
      subst hmc'
      have hw1 := hG.gsz
      have hDD : D ≠ D2 := by have := (Array.getElem?_eq_some_iff.1 hKD).1; omega
      have hGU := hG.go (new_below W1 _ rfl) hB2
      have hTU := box_go ((new_below W1 _ rfl).trans hB2) hT
      have hcn := hn2.cell
      have hctv := hTU.cell
      have hc1 := hGU.g1.cell
      have hKU : U.heap[D]? = some (.deferred (some [])) := by
        rw [((new_below W1 _ rfl).trans hB2).block D (Array.getElem?_eq_some_iff.1 hKD).1]; exact hKD
      clear hct hT HT hG hmc
      gi_wp2
      rw [roundsIn_succ]
      have hG := hGU.go (new_below U (.cells #[.int .i64 2] 3) rfl) (Below.refl _ _)
      have hT := Boxed.new U 3 (.int .i64 2)
      have hct := hT.cell
      have hc3 := hG.g3.cell
      have hf3 := hG.g3.frozen
      have kD : (U.alloc (.cells #[.int .i64 2] 3)).heap[D]? = some (.deferred (some [])) := by
        rw [(new_below U (.cells #[.int .i64 2] 3) rfl).block D (Array.getElem?_eq_some_iff.1 hKU).1]; exact hKU
      have kD2 : (U.alloc (.cells #[.int .i64 2] 3)).heap[D2]? = some (.deferred (some [])) := by
        rw [(new_below U (.cells #[.int .i64 2] 3) rfl).block D2 (Array.getElem?_eq_some_iff.1 hK2).1]; exact hK2
      have hD2w : w.heap.size ≤ D2 := by omega
      generalize U.alloc (.cells #[.int .i64 2] 3) = X at hG hT hct hc3 hf3 kD kD2 ⊢
      generalize U.heap.size = T2 at hT hct ⊢
      gi_wp2
      have b1 : Below w.heap.size w (X.setCell ⟨w.heap.size + 1 + 1 + 1, 0, none⟩ (.bool true)) := hG.gb.trans ((Below.refl _ X).setCell (p := ⟨w.heap.size + 1 + 1 + 1, 0, none⟩) (by show w.heap.size ≤ w.heap.size + 1 + 1 + 1; omega) _)
      have s1 := hG.g3.set (.bool true)
      have k2 := (KeepsOthers.setCell X ⟨w.heap.size + 1 + 1 + 1, 0, none⟩ (.bool true)).same D2 _ kD2 rfl
      have k1 := (KeepsOthers.setCell X ⟨w.heap.size + 1 + 1 + 1, 0, none⟩ (.bool true)).same D _ kD rfl
      generalize X.setCell ⟨w.heap.size + 1 + 1 + 1, 0, none⟩ (.bool true) = Y at b1 s1 k1 k2 ⊢
      have b2 := b1.trans (belowK_b (w := w) (Nat.le_refl _) Y D2 _ (.deferred none) hD2w k2 rfl rfl)
      have k3 : (Y.putObj D2 (.deferred none)).heap[D]? = some (.deferred (some [])) := ((grownBy_putObj' Y D2 (.deferred none)).block D (Array.getElem?_eq_some_iff.1 k1).1 (fun e => hDD (by cases e; rfl))).trans k1
      have b3 := b2.trans (belowK_b (w := w) (Nat.le_refl _) _ D _ (.deferred none) hDw k3 rfl rfl)
      have c1 := cell_kept s1.cell (grownBy_putObj' Y D2 (.deferred none)) (fun r e => by cases e; exact ⟨_, k2, rfl⟩)
      have c2 := cell_kept c1 (grownBy_putObj' _ D (.deferred none)) (fun r e => by cases e; exact ⟨_, k3, rfl⟩)
      refine ⟨by simp, .inl ⟨_, _, rfl, run_takeDeferred k2, ?_⟩⟩
      refine ⟨by simp, .inl ⟨_, _, rfl, run_takeDeferred k3, ?_⟩⟩
      refine ⟨.bool true, ?_, rfl, b3⟩
      simp [results, Try.f16, go_sem, c2]
end Go.Proofs.Ythhoeabenngiiaa
