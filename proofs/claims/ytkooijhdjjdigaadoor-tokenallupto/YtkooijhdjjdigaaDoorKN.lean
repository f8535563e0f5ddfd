/- Lists of tokens and of texts in memory; the document's Same, SameTexts. -/
import Derived.Test.YtkooijhdjjdigaaDoorKL
import Derived.Deep.MidRow
namespace Go.Proofs.YtkooijhdjjdigaaDoor
open Go.ChangeShapes Go.WideShapes Go.ChangeAt Go.RowKit
set_option linter.unusedVariables false

/-- A list of tokens in memory, and in every later world. -/
def TkAt (w : World) (v : Value) (l : List Tk) : Prop := ∃ p c, v = .slice p l.length c ∧ (0 < l.length → ∃ g, p = some ⟨g, 0, none⟩ ∧ ∀ V, Below w.heap.size w V → ∀ (i : Nat) (x : Tk), l[i]? = some x → V.cell? ⟨g, i * 3, none⟩ = some (.int .i64 (x.k : Int)) ∧ V.cell? ⟨g, i * 3 + 1, none⟩ = some (.int .i64 (x.a : Int)) ∧ V.cell? ⟨g, i * 3 + 2, none⟩ = some (.string ⟨x.t.toArray⟩))
def StAt (w : World) (v : Value) (l : List (List UInt8)) : Prop := ∃ p c, v = .slice p l.length c ∧ (0 < l.length → ∃ g, p = some ⟨g, 0, none⟩ ∧ ∀ V, Below w.heap.size w V → ∀ (i : Nat) (x : List UInt8), l[i]? = some x → V.cell? ⟨g, i, none⟩ = some (.string ⟨x.toArray⟩))
theorem TkAt.later {w w' : World} {v : Value} {l : List Tk} (h : TkAt w v l) (hb : Below w.heap.size w w') : TkAt w' v l := by
  obtain ⟨p, c, e, hc⟩ := h
  exact ⟨p, c, e, fun h0 => let ⟨g, e2, h2⟩ := hc h0; ⟨g, e2, fun V hV => h2 V (below_trans hb hV)⟩⟩
theorem StAt.later {w w' : World} {v : Value} {l : List (List UInt8)} (h : StAt w v l) (hb : Below w.heap.size w w') : StAt w' v l := by
  obtain ⟨p, c, e, hc⟩ := h
  exact ⟨p, c, e, fun h0 => let ⟨g, e2, h2⟩ := hc h0; ⟨g, e2, fun V hV => h2 V (below_trans hb hV)⟩⟩
theorem stAt_own {w : World} {base : Nat} {v : Value} {l : List (List UInt8)} (h : w.ownsRow base 9 1 v l.length (stL l)) : StAt w v l := own_cell h
theorem tkL_get : ∀ (l : List Tk) (i : Nat) (x : Tk), l[i]? = some x → (tkL l)[i * 3]? = some (.int .i64 (x.k : Int)) ∧ (tkL l)[i * 3 + 1]? = some (.int .i64 (x.a : Int)) ∧ (tkL l)[i * 3 + 2]? = some (.string ⟨x.t.toArray⟩)
  | [], i, x, h => by simp at h
  | y :: l, 0, x, h => by
    simp at h; subst h
    rw [show y :: l = [y] ++ l from rfl, tkL_append, tkL_one]
    exact ⟨rfl, rfl, rfl⟩
  | y :: l, i + 1, x, h => by
    have ih := tkL_get l i x (by simpa using h)
    have e : ∀ d, (tkL (y :: l))[(i + 1) * 3 + d]? = (tkL l)[i * 3 + d]? := fun d => by
      rw [show y :: l = [y] ++ l from rfl, tkL_append, tkL_one, List.getElem?_append_right (by simp [tkC]; omega)]
      congr 1
      simp [tkC]; omega
    exact ⟨(e 0).trans ih.1, (e 1).trans ih.2.1, (e 2).trans ih.2.2⟩
theorem tkAt_own {w : World} {base : Nat} {v : Value} {l : List Tk} (h : w.ownsRow base 39 3 v l.length (tkL l)) : TkAt w v l := by
  rcases h.2 with ⟨rfl, h0⟩ | ⟨g, cap, cur, rfl, hbg, hg, hnc, hcm, hcs, htake⟩
  · exact ⟨none, 0, by rw [h0], fun hh => by omega⟩
  · refine ⟨some ⟨g, 0, none⟩, cap, rfl, fun _ => ⟨g, rfl, fun V hV i x hx => ?_⟩⟩
    have hi := (List.getElem?_eq_some_iff.1 hx).1
    have h1 : V.heap[g]? = some (.cells cur 39 (0, 0)) := (hV.block g (Array.getElem?_eq_some_iff.1 hg).1).trans hg
    have h3 : ∀ d u, d < 3 → (tkL l)[i * 3 + d]? = some u → V.cell? ⟨g, i * 3 + d, none⟩ = some u := fun d u hd hu => by
      rw [cell_of_row V g _ _ _ _ h1, ← Array.getElem?_toList]
      rw [← htake, List.getElem?_take, if_pos (by omega)] at hu
      exact hu
    obtain ⟨x1, x2, x3⟩ := tkL_get l i x hx
    exact ⟨h3 0 _ (by omega) x1, h3 1 _ (by omega) x2, h3 2 _ (by omega) x3⟩
/-- What the library's variable holds. -/
def Env (w : World) : Prop := ∃ m, w.cell? ⟨0, 0, none⟩ = some (.int .i64 m)
theorem cell_later {w w' : World} (b : Below w.heap.size w w') {a : Addr} {v : Value} (h : w.cell? a = some v) : w'.cell? a = some v := by
  refine (b.cell ?_).trans h
  refine Nat.lt_of_not_le fun hn => ?_
  have : w.heap[a.block]? = none := by simp; exact hn
  rw [World.cell?_of_block (w := World.mk #[] w.tape w.drawn w.os w.output) (w' := w) (by rw [this]; simp)] at h
  simp [World.cell?] at h
theorem Env.below {w w' : World} (h : Env w) (b : Below w.heap.size w w') : Env w' := let ⟨m, hm⟩ := h; ⟨m, cell_later b hm⟩
theorem below_drew (w : World) : Below w.heap.size w w.drew := ⟨rfl, rfl, rfl, Nat.le_refl _, fun _ _ => rfl⟩
theorem ba_ne {a b : List UInt8} (h : a ≠ b) : ((⟨a.toArray⟩ : ByteArray).toList == (⟨b.toArray⟩ : ByteArray).toList) = false := by
  refine beq_eq_false_iff_ne.2 fun e => h ?_
  rw [ByteArray.toList_eq, ByteArray.toList_eq] at e
  simpa using e
theorem get_some {α : Type} {l : List α} {i : Nat} (h : i < l.length) : ∃ x, l[i]? = some x ∧ l.drop i = x :: l.drop (i + 1) :=
  ⟨l[i], List.getElem?_eq_getElem h, List.drop_eq_getElem_cons h⟩
set_option maxHeartbeats 2000000 in
set_option maxRecDepth 10000 in
theorem sametexts_e (w : World) (v1 v2 : Value) (l1 l2 : List (List UInt8)) (h1 : StAt w v1 l1) (h2 : StAt w v2 l2) (hs : l1.length ≤ 140737488355328) :
    Calls Tryd.prog 23 #[v1, v2] w fun e w' => e = .returned (.bool (decide (l1 = l2))) ∧ Below w.heap.size w w' := by
  obtain ⟨R, hR⟩ : ∃ R, decide (l1 = l2) = R := ⟨_, rfl⟩
  rw [hR]
  obtain ⟨p1, c1, rfl, h1⟩ := h1
  obtain ⟨p2, c2, rfl, h2⟩ := h2
  by_cases hl : l1.length = l2.length
  · have H1 := hide h1
    have H2 := hide h2
    have hlR : decide (l1.drop 0 = l2.drop 0) = R := by simpa using hR
    have HR := hide hlR
    have HL := hide hl
    have e1 : ((l1.length : Int) != (l2.length : Int)) = false := by simp [bne, hl]
    clear h1 h2 hR hlR hl
    go_enter Tryd.func23, Tryd.ntmps23
    go_wp2
    go_loopw [5] (fun iv wr => ∃ i : Nat, i ≤ l1.length ∧ iv = .int .i64 (i : Int) ∧ decide (l1.drop i = l2.drop i) = R ∧ Below w.heap.size w wr) (fun iv _ => l1.length - (intOf iv).toNat)
    case atStart => exact ⟨0, by omega, rfl, HR.out, Below.refl _ _⟩
    case round =>
      obtain ⟨i, hi, rfl, hrel, hbel⟩ := hrel
      have HB := hide hbel
      clear hbel
      have hll := HL.out
      by_cases hlt : i < l1.length
      · have m1 : (i : Int) < (l1.length : Int) := by omega
        have m2 : (i : Int) < (l2.length : Int) := by omega
        have m0 : (0 : Int) ≤ (i : Int) := by omega
        have hw1 : IntKind.i64.wrap ((i : Int) + 1) = ((i + 1 : Nat) : Int) := by rw [IntKind.wrap_i64]; omega
        obtain ⟨x, hx, hdx⟩ := get_some hlt
        obtain ⟨y, hy, hdy⟩ := get_some (l := l2) (i := i) (by omega)
        obtain ⟨g1, rfl, hc1⟩ := H1.out (by omega)
        obtain ⟨g2, rfl, hc2⟩ := H2.out (by omega)
        have k1 := hc1 wr HB.out i x hx
        have k2 := hc2 wr HB.out i y hy
        rw [hdx, hdy] at hrel
        by_cases he : x = y
        · subst he
          have HN : Hid (decide (l1.drop (i + 1) = l2.drop (i + 1)) = R) := by rw [← hrel]; simp [Hid]
          clear hrel hdx hdy hx hy hc1 hc2 hll
          go_wp2
          go_region
          go_wp2
          go_roundw
          case rel => exact ⟨i + 1, by omega, rfl, HN.out, below_trans HB.out (below_drew _)⟩
          case measure => simp [intOf]; omega
        · have hne := ba_ne he
          obtain ⟨X, hX⟩ : ∃ X : ByteArray, (⟨x.toArray⟩ : ByteArray) = X := ⟨_, rfl⟩
          obtain ⟨Y, hY⟩ : ∃ X : ByteArray, (⟨y.toArray⟩ : ByteArray) = X := ⟨_, rfl⟩
          rw [hX, hY] at hne
          rw [hX] at k1
          rw [hY] at k2
          obtain rfl : false = R := by rw [← hrel]; simp [he]
          clear hrel hdx hdy hx hy hc1 hc2 hll he hX hY
          go_wp2
          go_region
          go_wp2
          go_ret
          exact ⟨rfl, below_trans HB.out (below_drew _)⟩
      · have hie : i = l1.length := by omega
        have m1 : ¬ (l1.length : Int) < (l1.length : Int) := by omega
        subst hie
        obtain rfl : true = R := by
          rw [← hrel, List.drop_of_length_le (Nat.le_refl _), hll, List.drop_of_length_le (Nat.le_refl _)]; rfl
        clear hrel hll
        go_wp2
        go_ret
        exact ⟨rfl, HB.out⟩
  · have e1 : ((l1.length : Int) != (l2.length : Int)) = true := by simp [bne]; omega
    obtain rfl : false = R := by
      rw [← hR]; symm; simp; intro e; exact hl (congrArg _ e)
    clear h1 h2 hR hl
    go_enter Tryd.func23, Tryd.ntmps23
    go_wp2
    go_ret
    exact ⟨rfl, Below.refl _ _⟩
set_option maxHeartbeats 2000000 in
set_option maxRecDepth 10000 in
theorem same_e (w : World) (v1 v2 : Value) (l1 l2 : List Tk) (h1 : TkAt w v1 l1) (h2 : TkAt w v2 l2) (hs : l1.length ≤ 140737488355328) :
    Calls Tryd.prog 12 #[v1, v2] w fun e w' => e = .returned (.bool (decide (l1 = l2))) ∧ Below w.heap.size w w' := by
  obtain ⟨R, hR⟩ : ∃ R, decide (l1 = l2) = R := ⟨_, rfl⟩
  rw [hR]
  obtain ⟨p1, c1, rfl, h1⟩ := h1
  obtain ⟨p2, c2, rfl, h2⟩ := h2
  by_cases hl : l1.length = l2.length
  · have H1 := hide h1
    have H2 := hide h2
    have hlR : decide (l1.drop 0 = l2.drop 0) = R := by simpa using hR
    have HR := hide hlR
    have HL := hide hl
    have e1 : ((l1.length : Int) != (l2.length : Int)) = false := by simp [bne, hl]
    clear h1 h2 hR hlR hl
    go_enter Tryd.func12, Tryd.ntmps12
    go_wp2
    go_loopw [5] (fun iv wr => ∃ i : Nat, i ≤ l1.length ∧ iv = .int .i64 (i : Int) ∧ decide (l1.drop i = l2.drop i) = R ∧ Below w.heap.size w wr) (fun iv _ => l1.length - (intOf iv).toNat)
    case atStart => exact ⟨0, by omega, rfl, HR.out, Below.refl _ _⟩
    case round =>
      obtain ⟨i, hi, rfl, hrel, hbel⟩ := hrel
      have HB := hide hbel
      clear hbel
      have hll := HL.out
      by_cases hlt : i < l1.length
      · have m1 : (i : Int) < (l1.length : Int) := by omega
        have m2 : (i : Int) < (l2.length : Int) := by omega
        have m0 : (0 : Int) ≤ (i : Int) := by omega
        have hw1 : IntKind.i64.wrap ((i : Int) + 1) = ((i + 1 : Nat) : Int) := by rw [IntKind.wrap_i64]; omega
        obtain ⟨x, hx, hdx⟩ := get_some hlt
        obtain ⟨y, hy, hdy⟩ := get_some (l := l2) (i := i) (by omega)
        obtain ⟨g1, rfl, hc1⟩ := H1.out (by omega)
        obtain ⟨g2, rfl, hc2⟩ := H2.out (by omega)
        obtain ⟨k1, k2, k3⟩ := hc1 wr HB.out i x hx
        obtain ⟨k4, k5, k6⟩ := hc2 wr HB.out i y hy
        rw [hdx, hdy] at hrel
        obtain ⟨xk, xa, xt⟩ := x
        obtain ⟨yk, ya, yt⟩ := y
        simp only at k1 k2 k3 k4 k5 k6
        by_cases he : (⟨xk, xa, xt⟩ : Tk) = ⟨yk, ya, yt⟩
        · obtain ⟨rfl, rfl, rfl⟩ : xk = yk ∧ xa = ya ∧ xt = yt := by injection he with a b c; exact ⟨a, b, c⟩
          have HN : Hid (decide (l1.drop (i + 1) = l2.drop (i + 1)) = R) := by rw [← hrel]; simp [Hid]
          obtain ⟨X, hX⟩ : ∃ X : ByteArray, (⟨xt.toArray⟩ : ByteArray) = X := ⟨_, rfl⟩
          rw [hX] at k3 k6
          clear hrel hdx hdy hx hy hc1 hc2 hll he hX
          go_wp2
          go_region
          go_wp2
          go_roundw
          case rel => exact ⟨i + 1, by omega, rfl, HN.out, below_trans HB.out (below_drew _)⟩
          case measure => simp [intOf]; omega
        · obtain rfl : false = R := by rw [← hrel]; simp [he]
          have hk : ¬ xk = yk ∨ xk = yk ∧ ¬ xa = ya ∨ xk = yk ∧ xa = ya ∧ ¬ xt = yt := by
            by_cases a : xk = yk
            · by_cases b : xa = ya
              · refine .inr (.inr ⟨a, b, fun c => he (by rw [a, b, c])⟩)
              · exact .inr (.inl ⟨a, b⟩)
            · exact .inl a
          have hne : xt ≠ yt → _ := ba_ne (a := xt) (b := yt)
          obtain ⟨X, hX⟩ : ∃ X : ByteArray, (⟨xt.toArray⟩ : ByteArray) = X := ⟨_, rfl⟩
          obtain ⟨Y, hY⟩ : ∃ X : ByteArray, (⟨yt.toArray⟩ : ByteArray) = X := ⟨_, rfl⟩
          rw [hX, hY] at hne
          rw [hX] at k3
          rw [hY] at k6
          rcases hk with hk | ⟨rfl, hk⟩ | ⟨rfl, rfl, hk⟩
          · have f1 : ((xk : Int) == (yk : Int)) = false := beq_eq_false_iff_ne.2 (by omega)
            clear hrel hdx hdy hx hy hc1 hc2 hll he hX hY hne hk
            go_wp2
            go_region
            go_wp2
            go_ret
            exact ⟨rfl, below_trans HB.out (below_drew _)⟩
          · have f1 : ((xa : Int) == (ya : Int)) = false := beq_eq_false_iff_ne.2 (by omega)
            clear hrel hdx hdy hx hy hc1 hc2 hll he hX hY hne hk
            go_wp2
            go_region
            go_wp2
            go_ret
            exact ⟨rfl, below_trans HB.out (below_drew _)⟩
          · have f1 := hne hk
            clear hrel hdx hdy hx hy hc1 hc2 hll he hX hY hne hk
            go_wp2
            go_region
            go_wp2
            go_ret
            exact ⟨rfl, below_trans HB.out (below_drew _)⟩
      · have hie : i = l1.length := by omega
        have m1 : ¬ (l1.length : Int) < (l1.length : Int) := by omega
        subst hie
        obtain rfl : true = R := by
          rw [← hrel, List.drop_of_length_le (Nat.le_refl _), hll, List.drop_of_length_le (Nat.le_refl _)]; rfl
        clear hrel hll
        go_wp2
        go_ret
        exact ⟨rfl, HB.out⟩
  · have e1 : ((l1.length : Int) != (l2.length : Int)) = true := by simp [bne]; omega
    obtain rfl : false = R := by
      rw [← hR]; symm; simp; intro e; exact hl (congrArg _ e)
    clear h1 h2 hR hl
    go_enter Tryd.func12, Tryd.ntmps12
    go_wp2
    go_ret
    exact ⟨rfl, Below.refl _ _⟩
end Go.Proofs.YtkooijhdjjdigaaDoor
