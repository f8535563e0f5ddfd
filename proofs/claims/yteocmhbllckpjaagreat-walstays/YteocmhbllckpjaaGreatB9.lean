/- The log is whole. -/
import Derived.RangeFuncWrites
import Derived.Test.YteocmhbllckpjaaGreatB8
namespace Go.Proofs.YteocmhbllckpjaaGreat
open Go.ChangeShapes Go.WideShapes Go.ChangeAt Go.RowKit Go.Shelf
set_option linter.unusedVariables false
attribute [local go_sem] Oper.semAt_some

structure Fra (N E : Nat → Nat) (P : Nat → List UInt8) : Prop where
  num : ∀ k, N k ≤ 4096
  en : ∀ k, E k ≤ 4097
  ne : ∀ k, N k ≠ 0 ∨ E k ≠ 0
  pg : ∀ k, (P k).length = 256
def endB (E : Nat → Nat) (pre : List Nat) : Bool := match pre.getLast? with | none => true | some x => decide (E x ≠ 0)

theorem blk_keep {X Y : World} {row : Option Nat} {g : Nat} {c : Array Value} {t : TypeId} (h : Blk X g c t) (hg : X.grownBy Y row) (hrow : ∀ r, row = some r → ∃ o : Obj, X.heap[r]? = some o ∧ o.isCells = false) : Blk Y g c t := by
  show Y.heap[g]? = _
  rw [hg.block g h.lt (fun e' => ?_)]
  · exact h
  · obtain ⟨o, ho, hc⟩ := hrow g e'.symm
    rw [show X.heap[g]? = _ from h] at ho; cases ho; cases hc
theorem wpIn_storeB {F : Fence} {n : Nat} {ops : Array Oper} {rest : List Oper} {o : Oper} {a : Act} {Q : Exit → Act → World → Prop} {w : World} {g : Nat} {t : TypeId} {c z : Array Value} (hi : (Tryz.prog.info? t).map (·.size) = some c.size) (hs : c.size = z.size) (h1 : c.all (·.oneCell') = true) (hg : Blk w g z t) (x y : Operand)
    (hgd : o.guard = none) (ho : o.op = .store t x y) (hx : a.eval x = .pointer (some ⟨g, 0, none⟩)) (hy : a.eval y = .agg c)
    (hk : ∀ W', Blk W' g c t → Only [g] w W' → KeepsOthers w W' → wpListIn F n Tryz.prog ops Q rest (a.put o.dst undef) W') : wpListIn F n Tryz.prog ops Q (o :: rest) a w := by
  refine wpListIn_plain hgd fun K hK' => ?_
  unfold Oper.wpIn
  refine ⟨by simp [Oper.about, ho], ?_⟩
  rw [Oper.semAt_plain F _ _ (by rw [ho]; intro c hc'; cases hc')]
  unfold execOp
  simp only [ho, hx, hy, Instr.storeAt, Instr.sureAddr, Sem.run_bind, Sem.run_pure, Result.andThen_ok, run_storeVar_row w g t t z c hg hi hs.symm h1]
  refine hK' _ _ (hk _ (setRow_heap w g _ _ _ _ hg) ⟨rfl, rfl, rfl, by simp [World.setRow], fun k _ hk => setRow_other w g k _ (fun e => hk (by simp [e]))⟩ ⟨by simp [World.setRow], fun k o hq ho => ?_⟩)
  rw [setRow_other w g k _ (fun e => ?_)]
  · exact hq
  · subst e; rw [show w.heap[k]? = _ from hg] at hq; cases hq; cases ho
theorem wpIn_loadB {F : Fence} {n : Nat} {ops : Array Oper} {rest : List Oper} {o : Oper} {a : Act} {Q : Exit → Act → World → Prop} {w : World} {g : Nat} {t : TypeId} {c : Array Value} (hi : (Tryz.prog.info? t).map (·.size) = some c.size) (hu : ∃ d, Tryz.prog.underlying t = some d ∧ d.isRow = true) (hg : Blk w g c t) (x : Operand)
    (hgd : o.guard = none) (ho : o.op = .load t x) (hx : a.eval x = .pointer (some ⟨g, 0, none⟩)) (h : wpListIn F n Tryz.prog ops Q rest (a.put o.dst (.agg c)) w) : wpListIn F n Tryz.prog ops Q (o :: rest) a w := by
  obtain ⟨d, hd, hr⟩ := hu
  have hld := run_loadVar_mid (P := Tryz.prog) w g 0 t c.toList d (range_of_blk hg) hd hr (by simpa using hi)
  refine wpListIn_plain hgd fun K hK' => ?_
  unfold Oper.wpIn
  refine ⟨by simp [Oper.about, ho], ?_⟩
  rw [Oper.semAt_plain F _ _ (by rw [ho]; intro c hc'; cases hc')]
  unfold execOp
  simp only [ho, hx, Instr.loadAt, Instr.sureAddr, Sem.run_bind, Sem.run_pure, Result.andThen_ok, hld]
  exact hK' _ _ h
/-- Between two rounds. -/
def WhI (w : World) (E : Nat → Nat) (pre : List Nat) (W : World) : Prop := Boxed W (w.heap.size + 1) 4 (.bool false) ∧ Boxed W (w.heap.size + 1 + 1) 4 (.bool (endB E pre)) ∧ Below w.heap.size w W ∧ w.heap.size + 5 ≤ W.heap.size
theorem whI_own (w : World) (E : Nat → Nat) (B : Nat) (h : w.heap.size ≤ B) : OwnFrom B (WhI w E) :=
  OwnFrom.and (Own.from (boxed_own _ _ (fun _ : List Nat => .bool false)) _) (OwnFrom.and (Own.from (boxed_own _ _ (fun pre : List Nat => .bool (endB E pre))) _) (OwnFrom.and (ownFrom_below (Nat.le_refl _) h) (fun s X Y row hs hg _ => Nat.le_trans hs hg.size)))
theorem gbelow {n : Nat} {A B : World} (h : A.grownBy B none) (hn : n ≤ A.heap.size) : Below n A B := ⟨h.os, h.tape, h.output, h.size, fun k hk => h.block k (by omega) (by simp)⟩
def whT (w : World) (b : Nat) (T : ByteArray) (K : Nat) (x g : Nat) (C : Array Value) : Act := { tmps := #[.agg #[.pointer (some ⟨b, 0, none⟩), .string T, .int .i64 (K : Int)], .pointer (some ⟨w.heap.size, 0, none⟩), .pointer (some ⟨w.heap.size + 1, 0, none⟩), .pointer (some ⟨w.heap.size + 1 + 1, 0, none⟩), undef, .pointer (some ⟨g, 0, none⟩), .pointer (some ⟨w.heap.size, 1, none⟩), .string T, .int .i64 (T.size : Int), .pointer (some ⟨w.heap.size, 2, none⟩), .int .i64 (K : Int), .int .i64 (320 * (K : Int)), .bool false, .agg #[.pointer (some ⟨b, 0, none⟩), .string T, .int .i64 (K : Int)], .pointer (some ⟨w.heap.size, 2, none⟩), .int .i64 (K : Int), .func (.func 119) #[] #[.pointer (some ⟨w.heap.size + 1 + 1 + 1 + 1, 0, none⟩), .pointer (some ⟨w.heap.size + 1 + 1 + 1, 0, none⟩)], .int .i64 ((x : Int) + 1), .agg C, undef, undef, undef, undef, undef, undef], defers := [] }

set_option maxRecDepth 100000 in
set_option maxHeartbeats 4000000 in
theorem whole_w (w : World) (b : Nat) (t : List UInt8) (K : Nat) (hK : K ≤ 10000) (N E : Nat → Nat) (P : Nat → List UInt8) (h : Frs t K N E P) (ha : Fra N E P) (hend : K = 0 ∨ E (K - 1) ≠ 0) :
    Calls Tryz.prog 82 #[lgV b t K] w fun x w' => x = .returned (.bool true) ∧ Below w.heap.size w w' := by
  have hs : (bstr t).size = 320 * K := by rw [bstr_size, h.len]
  have l1 : ¬ ((bstr t).size : Int) < 320 * (K : Int) := by omega
  have e1 : IntKind.i64.wrap (320 * (K : Int)) = 320 * (K : Int) := by rw [IntKind.wrap_i64]; omega
  have HFm := hideJ (fun V => frames_w V b t K K)
  have HFr := hideJ h
  have HFa := hideJ ha
  have hnil : ∀ (V : World) (b c : Nat), (binOp BinOp.eql 163 (.func (.func 119) #[] #[.pointer (some ⟨b, 0, none⟩), .pointer (some ⟨c, 0, none⟩)]) Value.nilFunc).run Tryz.prog V = .ok (.bool false) V := fun V b c => by kernel_rfl
  clear h ha hs
  rw [show lgV b t K = .agg #[.pointer (some ⟨b, 0, none⟩), .string (bstr t), .int .i64 (K : Int)] from rfl]
  refine (callsIn_wide (n := 9)).1 ?_
  refine callsIn_of_wp_marks Tryz.func82 rfl trivial ?_ rfl
  simp only [Tryz.ntmps82, List.size_toArray, List.length_cons, List.length_nil, Nat.reduceAdd, Nat.reduceSub, Array.replicate_succ, Array.replicate_zero, List.push_toArray, List.append_toArray, List.nil_append, List.cons_append]
  gi_wp2_with (refine ⟨trivial, ?_⟩; gi_at_call 83; refine CallsIn.mono (callsIn_wide.2 (HFm.out _)) ?_; rintro e w2 ⟨rfl, rfl⟩)
  have hB0 : Below w.heap.size w (((((w.alloc (.cells #[.pointer (some ⟨b, 0, none⟩), .string (bstr t), .int .i64 (K : Int)] 93)).alloc (.cells #[.bool false] 4)).alloc (.cells #[.bool true] 4)).alloc (.cells #[.pointer (some ⟨b, 0, none⟩), .string (bstr t), .int .i64 (K : Int)] 93)).alloc (.cells #[.int .i64 (K : Int)] 3)) := (((((Below.refl _ w).alloc (Nat.le_refl _) _).alloc (by simp) _).alloc (by simp; omega) _).alloc (by simp; omega) _).alloc (by simp; omega) _
  have bA := alloc_new (w.alloc (.cells #[.pointer (some ⟨b, 0, none⟩), .string (bstr t), .int .i64 (K : Int)] 93)) (.cells #[.bool false] 4)
  have bB := alloc_new ((w.alloc (.cells #[.pointer (some ⟨b, 0, none⟩), .string (bstr t), .int .i64 (K : Int)] 93)).alloc (.cells #[.bool false] 4)) (.cells #[.bool true] 4)
  have bC := alloc_new (((w.alloc (.cells #[.pointer (some ⟨b, 0, none⟩), .string (bstr t), .int .i64 (K : Int)] 93)).alloc (.cells #[.bool false] 4)).alloc (.cells #[.bool true] 4)) (.cells #[.pointer (some ⟨b, 0, none⟩), .string (bstr t), .int .i64 (K : Int)] 93)
  have bD := alloc_new ((((w.alloc (.cells #[.pointer (some ⟨b, 0, none⟩), .string (bstr t), .int .i64 (K : Int)] 93)).alloc (.cells #[.bool false] 4)).alloc (.cells #[.bool true] 4)).alloc (.cells #[.pointer (some ⟨b, 0, none⟩), .string (bstr t), .int .i64 (K : Int)] 93)) (.cells #[.int .i64 (K : Int)] 3)
  simp only [World.size_alloc] at bA bB bC bD
  have bA2 := (Below.heap_alloc _ (.cells #[.int .i64 (K : Int)] 3) _ (by simp)).trans ((Below.heap_alloc _ (.cells #[.pointer (some ⟨b, 0, none⟩), .string (bstr t), .int .i64 (K : Int)] 93) _ (by simp)).trans ((Below.heap_alloc _ (.cells #[.bool true] 4) _ (by simp)).trans bA))
  have bB2 := (Below.heap_alloc _ (.cells #[.int .i64 (K : Int)] 3) _ (by simp)).trans ((Below.heap_alloc _ (.cells #[.pointer (some ⟨b, 0, none⟩), .string (bstr t), .int .i64 (K : Int)] 93) _ (by simp)).trans bB)
  have bC2 := (Below.heap_alloc _ (.cells #[.int .i64 (K : Int)] 3) _ (by simp)).trans bC
  have hs0 : (((((w.alloc (.cells #[.pointer (some ⟨b, 0, none⟩), .string (bstr t), .int .i64 (K : Int)] 93)).alloc (.cells #[.bool false] 4)).alloc (.cells #[.bool true] 4)).alloc (.cells #[.pointer (some ⟨b, 0, none⟩), .string (bstr t), .int .i64 (K : Int)] 93)).alloc (.cells #[.int .i64 (K : Int)] 3)).heap.size = w.heap.size + 5 := by simp
  generalize (((((w.alloc (.cells #[.pointer (some ⟨b, 0, none⟩), .string (bstr t), .int .i64 (K : Int)] 93)).alloc (.cells #[.bool false] 4)).alloc (.cells #[.bool true] 4)).alloc (.cells #[.pointer (some ⟨b, 0, none⟩), .string (bstr t), .int .i64 (K : Int)] 93)).alloc (.cells #[.int .i64 (K : Int)] 3)) = W0 at hB0 bA2 bB2 bC2 bD hs0 ⊢
  have h0 : WhI w E [] W0 := ⟨bA2, bB2, hB0, by omega⟩
  refine wpIn_rangeFunc_ownH rfl (by omega) (gf := 119) (lb := #[.pointer (some ⟨w.heap.size + 1 + 1 + 1 + 1, 0, none⟩), .pointer (some ⟨w.heap.size + 1 + 1 + 1, 0, none⟩)]) rfl trivial (enters_of Tryz.func119 (by kernel_rfl) rfl)
    (frames_stops b t K hK N E P HFr.out K (Nat.le_refl _) _ (w.heap.size + 1 + 1 + 1 + 1) (w.heap.size + 1 + 1 + 1) (fun A B => B.heap[w.heap.size + 1 + 1 + 1 + 1]? = A.heap[w.heap.size + 1 + 1 + 1 + 1]? ∧ B.heap[w.heap.size + 1 + 1 + 1]? = A.heap[w.heap.size + 1 + 1 + 1]?) (fun A B h => h) W0 (by omega) (by omega) bD bC2)
    (fun h h' => ⟨h'.1.trans h.1, h'.2.trans h.2⟩)
    (fun W l o o' hl ho _ _ => ⟨(grownBy_putObj' W l o').block _ (by have := (Array.getElem?_eq_some_iff.1 ho).1; omega) (fun e => by simp at e; omega), (grownBy_putObj' W l o').block _ (by have := (Array.getElem?_eq_some_iff.1 ho).1; omega) (fun e => by simp at e; omega)⟩) (Below.refl _ _) (fun _ => rfl)
    (WhI w E) (fun _ _ _ => False) (whI_own w E _ (by omega)) (fun _ _ _ _ _ hs _ _ => hs) h0
    (fun x a' W => ∃ g, W0.heap.size ≤ g ∧ a' = whT w b (bstr t) K x g (fcl (N x : Int) (P x) (E x) true).toArray ∧ Blk W g (fcl (N x : Int) (P x) (E x) true).toArray 167)
    (fun x a' s X Y row hs hg hr => by
      obtain ⟨g, h1, h2, h3⟩ := hs
      exact ⟨g, h1, h2, blk_keep h3 hg (fun r e => (hr r e).2)⟩) ?assign ?body ?done ?stop
  case assign =>
    intro lp pre x W Kk hI hKk
    have hp := HFa.out.pg x
    obtain ⟨Z, hZs, hZ⟩ := new167 W
    have HZ := hideJ hZ
    have HI := hideJ (size167 (n := (N x : Int)) (p := P x) (e := E x) (pl := true) hp)
    have HA := hideJ (fcl_all (N x : Int) (P x) (E x) true)
    have HS : Hid ((fcl (N x : Int) (P x) (E x) true).toArray.size = Z.size) := by show _ = _; rw [List.size_toArray, fcl_length _ _ _ hp, hZs]
    have HKk := hideJ hKk
    have HIw := hideJ hI
    clear hZ hZs hp hKk hI
    simp only [encF]
    generalize hC : (fcl (N x : Int) (P x) (E x) true).toArray = C at HI HA HS HKk ⊢
    gi_wp2_with (refine wpIn_storeB (c := C) HI.out HS.out HA.out HZ.out _ _ (by rfl) (by rfl) (by rfl) (by rfl) ?_; intro W5 hb5 ho5 hk5)
    have hgr : W.grownBy W5 none := grown_only (World.grownBy_alloc _ _ _) ho5 (Nat.le_refl _)
    obtain ⟨i1, i2, i3, i4⟩ := HIw.out
    have hke : ∀ k, k < W.heap.size → W5.heap[k]? = W.heap[k]? := fun k hk => hgr.block k hk (by simp)
    exact HKk.out _ _ (((KeepsOthers.alloc W _).trans hk5).from _) ⟨hke _ (by omega), hke _ (by omega)⟩ ⟨(hke _ (by omega)).trans i1, (hke _ (by omega)).trans i2, i3.trans (gbelow hgr (by omega)), Nat.le_trans i4 hgr.size⟩ ⟨W.heap.size, by omega, rfl, hb5⟩
  case body =>
    rintro lp pre x a' W hl hr ⟨h1, h2, hB, hsz⟩ ⟨g, hg0, rfl, hg⟩ hlt
    have hp := HFa.out.pg x
    have HMb := hideJ (fun V => mayBe_w V (N x) (P x) (E x) hp (HFa.out.num x) (HFa.out.en x) (HFa.out.ne x))
    have HEn := hideJ (fun V => ends_w V (N x : Int) (P x) (E x) true hp)
    have HI := hideJ (size167 (n := (N x : Int)) (p := P x) (e := E x) (pl := true) hp)
    have HG := hideJ hg
    have H1 := hideJ h1
    have H2 := hideJ h2
    have HB := hideJ hB
    have HNx : Hid (endB E (pre ++ [x]) = decide (E x ≠ 0)) := by show _ = _; unfold endB; simp
    rw [← HNx.out] at HEn
    clear hp hg h1 h2 hB hlt
    simp only [whT]
    generalize hC : (fcl (N x : Int) (P x) (E x) true).toArray = C at HI HG HMb HEn ⊢
    clear hC
    gi_wp2_with (first
      | (refine wpIn_loadB (c := C) HI.out u167 HG.out _ (by rfl) (by rfl) (by rfl) ?_)
      | (refine wpIn_loadB (c := C) HI.out u167 HG3.out _ (by rfl) (by rfl) (by rfl) ?_)
      | (first | refine ⟨trivial, ?_⟩ | refine ⟨trivial, (fun h => absurd h (by decide)), ?_⟩); gi_at_call 118; refine CallsIn.mono (CallsIn.inRound _ (callsIn_wide.2 (HMb.out _))) ?_; rintro e w3 ⟨rfl, hg3⟩; have HG3 := hideJ (HG.out.grown hg3); have HR3 := hideJ hg3; clear hg3
      | (first | refine ⟨trivial, ?_⟩ | refine ⟨trivial, (fun h => absurd h (by decide)), ?_⟩); gi_at_call 84; refine CallsIn.mono (CallsIn.inRound _ (callsIn_wide.2 (HEn.out _))) ?_; rintro e w4 ⟨rfl, hg4⟩; have HR4 := hideJ (grown_trans' HR3.out hg4); have c2 := (Boxed.cell (show Boxed w4 (w.heap.size + 1 + 1) 4 (.bool (endB E pre)) from (HR4.out.block _ (by omega) (by simp)).trans H2.out)); have f2 := (Boxed.frozen (show Boxed w4 (w.heap.size + 1 + 1) 4 (.bool (endB E pre)) from (HR4.out.block _ (by omega) (by simp)).trans H2.out)); clear hg4)
    have hst := fun k (hk : k ≠ w.heap.size + 1 + 1) => Below.heap_setCell w4 ⟨w.heap.size + 1 + 1, 0, none⟩ (.bool (endB E (pre ++ [x]))) k hk
    have hke : ∀ k, k < W.heap.size → k ≠ w.heap.size + 1 + 1 → (w4.setCell ⟨w.heap.size + 1 + 1, 0, none⟩ (.bool (endB E (pre ++ [x])))).heap[k]? = W.heap[k]? := fun k hk hn => (hst k hn).trans (HR4.out.block k hk (by simp))
    have hbe : Below w.heap.size W (w4.setCell ⟨w.heap.size + 1 + 1, 0, none⟩ (.bool (endB E (pre ++ [x])))) := (gbelow HR4.out (by omega)).setCell (p := ⟨w.heap.size + 1 + 1, 0, none⟩) (by show w.heap.size ≤ w.heap.size + 1 + 1; omega) _
    have hbx : Boxed w4 (w.heap.size + 1 + 1) 4 (.bool (endB E pre)) := (HR4.out.block _ (by omega) (by simp)).trans H2.out
    exact ⟨((KeepsOthers.of_grownBy HR4.out (fun j o e => by cases e)).trans (KeepsOthers.setCell _ _ _)).from _, ⟨hke _ (by omega) (by omega), hke _ (by omega) (by omega)⟩, (hke _ (by omega) (by omega)).trans H1.out, hbx.set _, HB.out.trans hbe, Nat.le_trans hsz hbe.size⟩
  case done =>
    rintro D ys W hD rfl ⟨h1, h2, hB, hsz⟩ hK0
    have he : endB E (List.range K) = true := by
      unfold endB
      rcases hend with rfl | hend
      · rfl
      · rw [List.getLast?_range]
        split
        · rfl
        · rename_i x hx
          have : x = K - 1 := by split at hx <;> simp_all
          subst this
          simp [hend]
    rw [he] at h2
    have c2 := h2.cell
    have c1 := h1.cell
    have f1 := h1.frozen
    have s1 : Boxed (W.setCell ⟨w.heap.size + 1, 0, none⟩ (.bool true)) (w.heap.size + 1) 4 (.bool true) := h1.set _
    have b1 : Below w.heap.size w (W.setCell ⟨w.heap.size + 1, 0, none⟩ (.bool true)) := hB.trans ((Below.refl _ W).setCell (p := ⟨w.heap.size + 1, 0, none⟩) (by show w.heap.size ≤ w.heap.size + 1; omega) _)
    have k1 : (W.setCell ⟨w.heap.size + 1, 0, none⟩ (.bool true)).heap[D]? = some (.deferred (some [])) := (Below.heap_setCell W ⟨w.heap.size + 1, 0, none⟩ (.bool true) D (by show D ≠ w.heap.size + 1; omega)).trans hK0
    gi_wp2
    generalize W.setCell ⟨w.heap.size + 1, 0, none⟩ (.bool true) = Y at b1 s1 k1 ⊢
    have b2 := b1.trans (belowK_b (w := w) (Nat.le_refl _) Y D _ (.deferred none) (by omega) k1 rfl rfl)
    have c9 : (Y.putObj D (.deferred none)).cell? ⟨w.heap.size + 1, 0, none⟩ = some (.bool true) := Boxed.cell (show Boxed (Y.putObj D (.deferred none)) (w.heap.size + 1) 4 (.bool true) from ((grownBy_putObj' Y D (.deferred none)).block _ s1.lt (fun e => by simp at e; omega)).trans s1)
    refine ⟨by simp, .inl ⟨_, _, rfl, run_takeDeferred k1, ?_⟩⟩
    refine ⟨.bool true, ?_, rfl, b2⟩
    simp [results, Tryz.f82, go_sem, c9]
  case stop =>
    rintro D cc pre W _ _ h _
    exact h.elim
end Go.Proofs.YteocmhbllckpjaaGreat
