/- The cells of a page as a list. -/
import Derived.Maps.AppendAt
import Derived.RangeFuncWrites
import Derived.Test.YthhoeabenngiiaaOB
namespace Go.Proofs.Ythhoeabenngiiaa
open Go.ChangeShapes Go.WideShapes Go.ChangeAt Go.RowKit Go.Shelf
set_option linter.unusedVariables false
attribute [local go_sem] Oper.semAt_some

set_option maxRecDepth 100000 in
set_option maxHeartbeats 2000000 in
theorem cells1_inK (l : List UInt8) (hl : l.length = 256) (c : Nat) (hcv : cntV l = c) (hc : c ≤ 250) (S : Nat → ByteArray) (hS : ∀ k, k < c → 6 + c + sm l (k + 1) ≤ 256 ∧ subS l (6 + c + sm l k) (byt l (6 + k)) = S k)
    (n lp Bp : Nat) (Kp : World → World → Prop) (hKp : ∀ A B, Kp A B → B.heap[Bp]? = A.heap[Bp]?) (J Jx : List Nat → World → Prop)
    (hY : ∀ pre x W, J pre W → pre.length < c → YieldAt Fence.wide (n - 1) Try.prog lp (encC S x) W fun e W' =>
      (e = .returned (.bool true) ∧ J (pre ++ [x]) W' ∧ Kp W W') ∨ (e = .returned (.bool false) ∧ Jx (pre ++ [x]) W'))
    (W : World) (hJ : AbidesFrom W.heap.size J) (hP : PAt W Bp l) (h0 : J [] W) :
    CallsIn Fence.wide n Try.prog 39 #[.func (.yield lp) #[] #[], .pointer (some ⟨Bp, 0, none⟩)] W fun e W' => (∃ v, e = .returned v) ∧
      ((∃ ys, ys = List.range c ∧ J ys W') ∨ (∃ pre, (∃ k, k ≤ c ∧ pre = List.range k) ∧ Jx pre W')) := by
  have HP := hide hP
  have HL := hide hl
  have HC : Hid (∀ V, Calls Try.prog 12 #[.agg (bc l)] V fun e w' => e = .returned (.int .i64 (c : Int)) ∧ Below V.heap.size V w') := fun V => by rw [← hcv]; exact count_walk l hl V
  have e1 : IntKind.i64.wrap (6 + (c : Int)) = 6 + (c : Int) := by rw [IntKind.wrap_i64]; omega
  have hs : ∀ V : World, (Instr.sliceAt 23 (.pointer (some ⟨Bp, 0, none⟩)) (some (.int .i64 6)) (some (.int .i64 (6 + (c : Int)))) none).run Try.prog V = .ok (.slice (some ⟨Bp, 6, none⟩) c (256 - 6)) V := fun V => cut_page V Bp (x := 6) (y := 6 + (c : Int)) 6 c rfl rfl (by omega) (by omega)
  refine callsIn_of_wp Try.func39 rfl trivial ?_ rfl
  simp only [Try.ntmps39, List.size_toArray, List.length_cons, List.length_nil, Nat.reduceAdd, Nat.reduceSub, Array.replicate_succ, Array.replicate_zero, List.push_toArray, List.append_toArray, List.nil_append, List.cons_append]
  gi_wp2_with (first
    | (refine wpIn_loadP HL.out HP.out _ (by rfl) (by rfl) (by rfl) ?_)
    | (refine ⟨trivial, (fun h => absurd h (by decide)), ?_⟩; gi_at_call 12; refine CallsIn.mono (callsIn_wide.2 (HC.out _)) ?_; rintro e w2 ⟨rfl, hb2⟩; have HJ2 := hide (hJ _ _ _ _ h0 (grown_below hb2) (fun r e => by cases e)); have HP2 := hide (HP.out.later hb2); clear hb2))
  gi_loopw [16, 4] (fun iv av wr => ∃ k : Nat, k ≤ c ∧ iv = .int .i64 (k : Int) ∧ av = .int .i64 ((6 + c + sm l k : Nat) : Int) ∧ J (List.range k) wr ∧ PAt wr Bp l) (fun iv _ _ => c - (intOf iv).toNat)
  case atStart => exact ⟨0, Nat.zero_le _, rfl, rfl, HJ2.out, HP2.out⟩
  case round =>
    obtain ⟨k, hk, rfl, rfl, hJs, hPr⟩ := hrel
    by_cases hlt : k < c
    · obtain ⟨hle, hSk⟩ := hS k hlt
      obtain ⟨fn, tmps, assign, body, hy, hR⟩ := hY _ k wr hJs (by rw [List.length_range]; exact hlt)
      simp only [encC] at hy
      have HR := hide hR
      have HPr := hide hPr
      have hlt' : (k : Int) < (c : Int) := by omega
      have hk0 : (0 : Int) ≤ (k : Int) := by omega
      have ck := hPr.cell (k := 6 + k) (by omega)
      have bk := byt_lt l (6 + k)
      simp only [sm] at hle
      have w1 : IntKind.i64.wrap (((6 + c + sm l k : Nat) : Int) + (byt l (6 + k) : Int)) = ((6 + c + sm l k : Nat) : Int) + (byt l (6 + k) : Int) := by rw [IntKind.wrap_i64]; omega
      have w2 : IntKind.i64.wrap (byt l (6 + k) : Int) = (byt l (6 + k) : Int) := by rw [IntKind.wrap_i64]; omega
      have w3 : IntKind.i64.wrap ((k : Int) + 1) = (k : Int) + 1 := by rw [IntKind.wrap_i64]; omega
      obtain ⟨x1, hs1, hx1⟩ := cut_page' Bp (x := 6 + (c : Int) + (sm l k : Int)) (y := 6 + (c : Int) + (sm l k : Int) + (byt l (6 + k) : Int)) (6 + c + sm l k) (byt l (6 + k)) (by omega) (by omega) (by omega)
      have hv1 := conv_page HL.out hPr x1 (6 + c + sm l k) (byt l (6 + k)) (256 - (6 + c + sm l k)) (by omega) hx1
      rw [hSk] at hv1
      clear hR hPr hS hY hx1
      gi_wp2
      refine ⟨(fun h => absurd h (by decide)), HR.out.mono ?_⟩
      rintro e W3 (⟨rfl, hJ3, hk3⟩ | ⟨rfl, hJx3⟩)
      · have hP3 : PAt W3 Bp l := by
          show W3.heap[Bp]? = _
          rw [hKp _ _ hk3]; exact HPr.out
        gi_wp2
        go_roundw
        case rel => exact ⟨k + 1, by omega, by simp, by simp only [sm]; congr 1; omega, by rw [List.range_succ]; exact hJ3, hP3⟩
        case measure => simp [intOf]; omega
      · gi_wp2
        refine bodyPost_ret (results_none rfl _ _ _) rfl ?_
        exact ⟨⟨_, rfl⟩, .inr ⟨_, ⟨k + 1, by omega, (List.range_succ).symm⟩, hJx3⟩⟩
    · obtain rfl : k = c := by omega
      gi_wp2
      go_end0
      exact ⟨⟨_, rfl⟩, .inl ⟨_, rfl, hJs⟩⟩

theorem cells_stopsK (l : List UInt8) (hl : l.length = 256) (c : Nat) (hcv : cntV l = c) (hc : c ≤ 250) (S : Nat → ByteArray) (hS : ∀ k, k < c → 6 + c + sm l (k + 1) ≤ 256 ∧ subS l (6 + c + sm l k) (byt l (6 + k)) = S k)
    (n Bp : Nat) (Kp : World → World → Prop) (hKp : ∀ A B, Kp A B → B.heap[Bp]? = A.heap[Bp]?) (w : World) (hB2 : Bp < w.heap.size) (hP : PAt w Bp l) :
    SeqStopsK Fence.wide n Try.prog 39 #[.pointer (some ⟨Bp, 0, none⟩)] (encC S) Kp (fun ys => ys = List.range c) (fun pre => ∃ k, k ≤ c ∧ pre = List.range k) c w := fun lp J Jx W hW hJ _ hY h0 =>
  cells1_inK l hl c hcv hc S hS n lp Bp Kp hKp J Jx hY W hJ (hP.later hW) h0


theorem PAt.not_row {W : World} {B : Nat} {l : List UInt8} (h : PAt W B l) {base size k : Nat} {v : Value} {xs : List Value} (hr : W.ownsRow base 9 size v k xs) : some B ≠ v.ownBlock := by
  rcases hr.2 with ⟨rfl, _⟩ | ⟨g, cap, cur, rfl, _, hgb, _⟩
  · simp [Value.ownBlock]
  · intro e'
    obtain rfl : B = g := by simpa [Value.ownBlock] using e'
    have := (show W.heap[B]? = _ from h).symm.trans hgb
    simp at this
theorem page_own {β : Type} (B : Nat) (l : List UInt8) : Own (fun (_ : β) W => PAt W B l) := fun s X Y row hv hg hrow => by
  show Y.heap[B]? = _
  rw [hg.block B (Array.getElem?_eq_some_iff.1 hv).1 (fun e' => ?_)]
  · exact hv
  · obtain ⟨o, ho, hc⟩ := hrow B e'.symm
    rw [show X.heap[B]? = _ from hv] at ho; cases ho; cases hc
/-- Between two rounds. -/
def CoI (w : World) (l : List UInt8) (S : Nat → ByteArray) (pre : List Nat) (W : World) : Prop :=
  (∃ v, Boxed W (w.heap.size + 1) 25 v ∧ W.ownsRow w.heap.size 9 1 v pre.length (pre.map fun i => .string (S i)) ∧ True) ∧ PAt W (w.heap.size + 1 + 1) l ∧ Below w.heap.size w W
def CoX (_ : Code) (_ : List Nat) (_ : World) : Prop := False
theorem coI_own (w : World) (l : List UInt8) (S : Nat → ByteArray) (B : Nat) (h : w.heap.size ≤ B) : OwnFrom B (CoI w l S) :=
  OwnFrom.and (Own.from (holdsRow_own w.heap.size (w.heap.size + 1) 25 9 1 (fun pre : List Nat => pre.length) (fun pre => pre.map fun i => .string (S i)) (fun _ _ => True)) _) (OwnFrom.and (Own.from (page_own _ _) _) (ownFrom_below (Nat.le_refl _) h))

set_option maxRecDepth 100000 in
set_option maxHeartbeats 4000000 in
theorem cells_walk (l : List UInt8) (hl : l.length = 256) (c : Nat) (hcv : cntV l = c) (hc : c ≤ 250) (S : Nat → ByteArray) (hS : ∀ k, k < c → 6 + c + sm l (k + 1) ≤ 256 ∧ subS l (6 + c + sm l k) (byt l (6 + k)) = S k) (w : World) :
    Calls Try.prog 29 #[.agg (bc l)] w fun e w' => ∃ p, (∃ cc, e = .returned (.slice p c cc) ∧ c ≤ cc ∧ (p = none → cc = 0)) ∧ StrP w' p c S ∧ Below w.heap.size w w' := by
  have HL := hide hl
  have HCV := hide (And.intro hcv (And.intro hc hS))
  have HP : Hid (PAt ((w.alloc (.cells (bc l) 23)).alloc (.cells #[.slice none 0 0] 25)) w.heap.size l) := (PAt.new w l).later (new_below _ _ rfl)
  have HC := hide (cells_fn l hl)
  have hnil : ∀ (V : World) (b : Nat), (binOp BinOp.eql 67 (.func (.func 39) #[] #[.pointer (some ⟨b, 0, none⟩)]) Value.nilFunc).run Try.prog V = .ok (.bool false) V := fun V b => by kernel_rfl
  obtain ⟨i0, hi, hz0, hsz, hby⟩ := str_info
  have HI := hide (And.intro hi (And.intro hz0 (And.intro hsz hby)))
  clear hl hcv hc hS hi hz0 hsz hby
  refine (callsIn_wide (n := 9)).1 ?_
  refine callsIn_of_wp_marks Try.func29 rfl trivial ?_ rfl
  simp only [Try.ntmps29, List.size_toArray, List.length_cons, List.length_nil, Nat.reduceAdd, Nat.reduceSub, Array.replicate_succ, Array.replicate_zero, List.push_toArray, List.append_toArray, List.nil_append, List.cons_append]
  gi_wp2_with (first
    | (refine wpIn_loadP HL.out HP.out _ (by rfl) (by rfl) (by rfl) ?_)
    | (refine ⟨trivial, ?_⟩; gi_at_call 34; refine CallsIn.mono (callsIn_wide.2 (HC.out _)) ?_; rintro e w2 ⟨rfl, rfl⟩))
  have bO := Boxed.new (w.alloc (.cells (bc l) 23)) 25 (.slice none 0 0)
  have bP := PAt.new ((w.alloc (.cells (bc l) 23)).alloc (.cells #[.slice none 0 0] 25)) l
  rw [World.size_alloc] at bO
  rw [World.size_alloc, World.size_alloc] at bP
  have hB0 : Below w.heap.size w (((w.alloc (.cells (bc l) 23)).alloc (.cells #[.slice none 0 0] 25)).alloc (.cells (bc l) 23)) := below_trans (below_trans (new_below _ _ rfl) (new_below _ _ rfl)) (new_below _ _ rfl)
  have hs0 : (((w.alloc (.cells (bc l) 23)).alloc (.cells #[.slice none 0 0] 25)).alloc (.cells (bc l) 23)).heap.size = w.heap.size + 3 := by simp
  have h0 : CoI w l S [] (((w.alloc (.cells (bc l) 23)).alloc (.cells #[.slice none 0 0] 25)).alloc (.cells (bc l) 23)) := ⟨⟨_, bO.alloc _, World.ownsRow_nil _ _ _ _, trivial⟩, bP, hB0⟩
  generalize (((w.alloc (.cells (bc l) 23)).alloc (.cells #[.slice none 0 0] 25)).alloc (.cells (bc l) 23)) = W0 at hB0 hs0 h0 bP ⊢
  refine wpIn_rangeFunc_ownG rfl (by omega) (gf := 39) (lb := #[.pointer (some ⟨w.heap.size + 1 + 1, 0, none⟩)]) rfl trivial (enters_of Try.func39 (by kernel_rfl) rfl)
    (cells_stopsK l HL.out c HCV.out.1 HCV.out.2.1 S HCV.out.2.2 _ (w.heap.size + 1 + 1) (fun A B => B.heap[w.heap.size + 1 + 1]? = A.heap[w.heap.size + 1 + 1]?) (fun A B h => h) W0 (by omega) bP) (fun h h' => h'.trans h)
    (fun W b o o' hb ho _ _ => (grownBy_putObj' W b o').block _ (by have := (Array.getElem?_eq_some_iff.1 ho).1; omega) (fun e => by simp at e; omega)) (Below.refl _ _) (fun _ => rfl)
    (CoI w l S) CoX (coI_own w l S _ (by omega)) (fun _ _ _ _ _ hs _ _ => hs) h0
    (fun x => { tmps := #[.agg (bc l), .pointer (some ⟨w.heap.size, 0, none⟩), .slice none 0 0, .pointer (some ⟨w.heap.size + 1, 0, none⟩), .func (.func 39) #[] #[.pointer (some ⟨w.heap.size + 1 + 1, 0, none⟩)], undef, .string (S x), .agg (bc l), .func (.func 39) #[] #[.pointer (some ⟨w.heap.size + 1 + 1, 0, none⟩)], .func (.func 39) #[] #[.pointer (some ⟨w.heap.size + 1 + 1, 0, none⟩)], .bool false, .func (.func 39) #[] #[.pointer (some ⟨w.heap.size + 1 + 1, 0, none⟩)], .int .i64 (x : Int), .string (S x), undef, undef, undef, undef, undef], defers := [] }) ?assign ?body ?done ?stop
  case assign =>
    intro lp x W K hK
    simp only [encC]
    gi_wp2
    exact hK
  case body =>
    rintro lp pre x W ⟨⟨v, hv, hrow, _⟩, hp, hB⟩ hlt
    have hcl := hv.cell
    have hc := HCV.out.2.1
    gi_wp2_with (gi_at_builtin; refine wpListIn_append_own _ rfl _ _ 25 rfl w.heap.size 9 i0 _ 1 16 Try.underlying25 HI.out.1 HI.out.2.1 HI.out.2.2.1 HI.out.2.2.2 rfl (by decide) _ _ _ rfl (hrow.alloc _) ⟨W.heap.size, 0, none⟩ 1 1 [.string (S x)] rfl rfl (cell_one_new _ _ _) (one_str _) (by simp only [maxLen]; omega) (by omega) (by have := hB.size; simp; omega) ?_; intro v' w1 hown' hgrow _; obtain ⟨g', cap', rfl⟩ := ownsRow_succ hown'; obtain ⟨hv1, hv2, hr2, hk2, hb2⟩ := hv.appended (by decide) hrow hB.size (by omega) hown' hgrow; have hc1 := hv1.cell; have hf1 := hv1.frozen)
    have hp1 : w1.heap[w.heap.size + 1 + 1]? = W.heap[w.heap.size + 1 + 1]? := by
      have hlt := (Array.getElem?_eq_some_iff.1 hp).1
      rw [hgrow.block _ (by simp; omega) (hp.not_row hrow), (new_below W _ rfl).block _ hlt]
    have hp2 := hp1
    rw [← Below.heap_setCell w1 ⟨w.heap.size + 1, 0, none⟩ (.slice (some ⟨g', 0, none⟩) (pre.length + 1) cap') (w.heap.size + 1 + 1) (by show w.heap.size + 1 + 1 ≠ w.heap.size + 1; omega)] at hp2
    exact ⟨hk2.from _, hp2, ⟨_, hv2, by simpa using hr2, trivial⟩, hp2.trans hp, hB.trans hb2⟩
  case done =>
    rintro D ys W hD rfl ⟨⟨v, hv, hrow, _⟩, hp, hB⟩ hK
    have hcl := hv.cell
    rw [List.length_range] at hrow
    have hown := ownsRow_putObj hrow (.deferred none) hK rfl
    have hbe := hB.trans (belowK_b (w := w) (Nat.le_refl _) W D _ (.deferred none) (by omega) hK rfl rfl)
    obtain ⟨p, cc, rfl, hcc, hst⟩ := own_str hown
    gi_wp2
    refine ⟨by simp, .inl ⟨_, _, rfl, run_takeDeferred hK, ?_⟩⟩
    exact ⟨_, results_tmp rfl _ _ _, p, ⟨cc, rfl, hcc⟩, hst, hbe⟩
  case stop =>
    rintro D cc pre W _ _ h _
    exact h.elim
end Go.Proofs.Ythhoeabenngiiaa
