/- The program's own isKeyword. -/
import Derived.Test.YtkooijhdjjdigaaDoorCR
namespace Go.Proofs.YtkooijhdjjdigaaDoor
open Go.ChangeShapes Go.WideShapes Go.ChangeAt Go.RowKit
set_option linter.unusedVariables false

/-- What stays of the frame along the chain of comparisons. -/
structure TS (s : ByteArray) (T : Array Value) : Prop where
  sz : T.size = 82
  t3 : T[3]?.getD undef = .string s
theorem TS.set {s : ByteArray} {T : Array Value} (h : TS s T) (r : Nat) (hr : r ≠ 3) (v : Value) : TS s (T.setIfInBounds r v) := by
  refine ⟨by rw [Array.size_setIfInBounds]; exact h.sz, ?_⟩
  rw [Array.getElem?_setIfInBounds_ne hr]; exact h.t3
theorem kw_ops {s x : ByteArray} {r id ty1 ty2 : Nat} {p1 p2 : String} {af1 af2 : Array Edge} {Q : Exit → Act → World → Prop} {T : Array Value} {w : World} (h : TS s T) (hr : 5 ≤ r) (hr2 : r < 82)
    (hq : ∀ T', TS s T' → T'[4]?.getD undef = .bool (s.toList == x.toList) → Q .normal { tmps := T', defers := [] } w) :
    (Code.region id #[{ dst := some r, op := .binOp .eql 9 (.tmp 3) (.const (.string x)) 9, type := ty1, pos := p1, after := af1, guard := none }, { dst := some 4, op := .assign (.tmp r), type := ty2, pos := p2, after := af2, guard := none }] false).wp Tryd.prog Q { tmps := T, defers := [] } w := by
  have h3 := h.t3
  have hQ := hq ((T.setIfInBounds r (.bool (s.toList == x.toList))).setIfInBounds 4 (.bool (s.toList == x.toList))) ((h.set r (by omega) _).set 4 (by omega) _) (by rw [Array.getElem?_setIfInBounds_self_of_lt (by rw [Array.size_setIfInBounds, h.sz]; omega)]; rfl)
  have hg : ((T.setIfInBounds r (.bool (s.toList == x.toList)))[r]?.getD undef) = .bool (s.toList == x.toList) := by rw [Array.getElem?_setIfInBounds_self_of_lt (by rw [h.sz]; omega)]; rfl
  have HQ := hide hQ
  clear hq hQ
  refine wp_region_lit (l := [_, _]) ?_
  refine wpList_plain rfl fun K hK => ?_
  unfold Oper.wp execOp
  go_simp
  refine hK _ _ (wpList_plain rfl fun K2 hK2 => ?_)
  unfold Oper.wp execOp
  go_simp
  exact hK2 _ _ (wpList_nil HQ.out)
theorem tlB (l : List UInt8) : (⟨l.toArray⟩ : ByteArray).toList = l := by rw [ByteArray.toList_eq]
theorem kw_cond {s : ByteArray} {l : List UInt8} {Q : Exit → Act → World → Prop} {T : Array Value} {w : World} {rest : Code} (h : TS s T) (h4 : T[4]?.getD undef = .bool (s.toList == (⟨l.toArray⟩ : ByteArray).toList))
    (ht : s.toList = l → ∀ T', TS s T' → T'[4]?.getD undef = .bool true → Q .normal { tmps := T', defers := [] } w)
    (hf : s.toList ≠ l → ∀ T', TS s T' → T'[4]?.getD undef = .bool false → rest.wp Tryd.prog Q { tmps := T', defers := [] } w) :
    (Code.cond (.tmp 4) Code.skip rest).wp Tryd.prog Q { tmps := T, defers := [] } w := by
  rw [tlB l] at h4
  by_cases e : s.toList = l
  · rw [beq_iff_eq.2 e] at h4
    exact wp_cond_true (by simpa [Act.eval] using h4) (wp_skip (ht e T h h4))
  · rw [beq_eq_false_iff_ne.2 e] at h4
    exact wp_cond_false (by simpa [Act.eval] using h4) (hf e T h h4)
theorem kw_level {s : ByteArray} {l : List UInt8} {r id ty1 ty2 : Nat} {p1 p2 : String} {af1 af2 : Array Edge} {Q : Exit → Act → World → Prop} {T : Array Value} {w : World} {rest : Code} (h : TS s T) (hr : 5 ≤ r) (hr2 : r < 82)
    (ht : s.toList = l → ∀ T', TS s T' → T'[4]?.getD undef = .bool true → Q .normal { tmps := T', defers := [] } w)
    (hf : s.toList ≠ l → ∀ T', TS s T' → T'[4]?.getD undef = .bool false → rest.wp Tryd.prog Q { tmps := T', defers := [] } w) :
    (Code.seq (Code.region id #[{ dst := some r, op := .binOp .eql 9 (.tmp 3) (.const (.string ⟨l.toArray⟩)) 9, type := ty1, pos := p1, after := af1, guard := none }, { dst := some 4, op := .assign (.tmp r), type := ty2, pos := p2, after := af2, guard := none }] false) (Code.cond (.tmp 4) Code.skip rest)).wp Tryd.prog Q { tmps := T, defers := [] } w :=
  wp_seq (kw_ops h hr hr2 fun T' h' h4 => kw_cond h' h4 ht hf)
set_option maxRecDepth 100000 in
set_option maxHeartbeats 4000000 in
theorem iskey_e (s : ByteArray) (w : World) : Calls Tryd.prog 30 #[.string s] w fun e w' => e = .returned (.bool (isK s.data.toList)) ∧ w = w' := by
  rw [← ByteArray.toList_eq s]
  go_enter Tryd.func30, Tryd.ntmps30
  go_upto_region 2 with (fail)
  rename_i Q0 K2 a2 K1 a1 K0 a0
  have LT : ∀ T, TS s T → T[4]?.getD undef = .bool true → isK s.toList = true → K1 { tmps := T, defers := [] } w := by
    intro T h h4 hk
    refine a1 _ _ (wp_cond_true (by simpa [Act.eval] using h4) (wp_seq (wp_region_lit (l := [_]) (wpList_plain rfl fun K hK => ?_))))
    unfold Oper.wp execOp
    go_simp
    refine hK _ _ (wpList_nil (wp_ret ?_))
    show Q0 Exit.ret _ w
    refine bodyPost_ret (v := .bool true) ?_ rfl ⟨by rw [hk], rfl⟩
    have hs := h.sz
    have h2 : (T.setIfInBounds 2 (.bool true))[2]?.getD undef = .bool true := by rw [Array.getElem?_setIfInBounds_self_of_lt (by omega)]; rfl
    simp [results, Tryd.results30, hs]
  have LF : ∀ T, TS s T → T[4]?.getD undef = .bool false → isK s.toList = false → K1 { tmps := T, defers := [] } w := by
    intro T h h4 hk
    refine a1 _ _ (wp_cond_false (by simpa [Act.eval] using h4) (wp_skip (a2 _ _ (wp_seq (wp_region_lit (l := [_]) (wpList_plain rfl fun K hK => ?_))))))
    unfold Oper.wp execOp
    go_simp
    refine hK _ _ (wpList_nil (wp_ret ?_))
    show Q0 Exit.ret _ w
    refine bodyPost_ret (v := .bool false) ?_ rfl ⟨by rw [hk], rfl⟩
    have hs := h.sz
    simp [results, Tryd.results30, hs]
  refine kw_ops (x := ⟨[65, 66, 79, 82, 84].toArray⟩) ⟨by rfl, by rfl⟩ (by decide) (by decide) fun T h h4 => a0 _ _ (kw_cond h h4 (fun e T h h4 => LT T h h4 (by rw [e]; decide +kernel)) (fun e T h h4 => ?_))
  clear a0 a1 a2
  iterate 75 refine kw_level h (by decide) (by decide) (fun e T h h4 => LT T h h4 (by rw [e]; decide +kernel)) (fun e T h h4 => ?_)
  refine kw_ops h (by decide) (by decide) fun T h h4 => ?_
  show K1 { tmps := T, defers := [] } w
  rw [tlB [87, 73, 84, 72]] at h4
  by_cases e : s.toList = [87, 73, 84, 72]
  · rw [beq_iff_eq.2 e] at h4
    exact LT T h h4 (by rw [e]; decide +kernel)
  · rw [beq_eq_false_iff_ne.2 e] at h4
    refine LF T h h4 ?_
    rw [Bool.eq_false_iff]
    intro hc
    have hm := List.contains_iff_mem.1 hc
    clear LT LF h4
    generalize s.toList = L at *
    simp only [kwTab, List.mem_cons, List.not_mem_nil, or_false] at hm
    repeat (rcases hm with hm | hm; exact absurd hm (by assumption))
    exact absurd hm (by assumption)
end Go.Proofs.YtkooijhdjjdigaaDoor
