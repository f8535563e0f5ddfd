/- What steps make of what is seen: heads, frames, pages. Plain. -/
import Derived.Test.YteocmhbllckpjaaGreatB15
import Derived.Test.YteocmhbllckpjaaGreatS7
import Derived.Test.YteocmhbllckpjaaGreatAJG
namespace Go.Proofs.YteocmhbllckpjaaGreat
open Go.ChangeShapes Go.WideShapes Go.ChangeAt Go.RowKit
set_option linter.unusedVariables false

theorem sealB_length (a b c d : Nat) : (sealB a b c d).length = 64 := length_laid a b c d 12 (by omega)
/-- The bytes of a page of the database. -/
def pgL (l : List UInt8) (n : Nat) : List UInt8 := (l.drop (256 * (n - 1))).take 256
theorem pgL_length {l : List UInt8} {n : Nat} (h1 : 1 ≤ n) (h : 256 * n ≤ l.length) : (pgL l n).length = 256 := by unfold pgL; rw [List.length_take, List.length_drop]; omega

theorem splice_get {α : Type} (L : List α) (o : Nat) (d : List α) (h : o + d.length ≤ L.length) (i : Nat) : (splice L o d)[i]? = if i < o then L[i]? else if i < o + d.length then d[i - o]? else L[i]? := by
  unfold splice
  have h1 : (L.take o).length = o := by rw [List.length_take]; omega
  by_cases c1 : i < o
  · rw [if_pos c1, List.getElem?_append_left (by omega), List.getElem?_take, if_pos c1]
  · rw [if_neg c1, List.getElem?_append_right (by omega), h1]
    by_cases c2 : i < o + d.length
    · rw [if_pos c2, List.getElem?_append_left (by omega)]
    · rw [if_neg c2, List.getElem?_append_right (by omega), List.getElem?_drop]
      congr 1
      omega
theorem grown_get (l : List UInt8) (n i : Nat) (h : i < l.length) : (grownTo l n)[i]? = l[i]? := by
  unfold grownTo
  split
  · rw [List.getElem?_append_left h]
  · rfl
theorem subL_get (l : List UInt8) (o n i : Nat) : (subL l o n)[i]? = if i < n then l[o + i]? else none := by
  unfold subL
  rw [List.getElem?_take, List.getElem?_drop]
theorem subL_length {l : List UInt8} {o n : Nat} (h : o + n ≤ l.length) : (subL l o n).length = n := by
  unfold subL
  rw [List.length_take, List.length_drop]
  omega
theorem subL_wseen_at (l : List UInt8) (o : Nat) (d : List UInt8) (n : Nat) (hn : d.length = n) : subL (wseen l o d) o n = d := by
  apply List.ext_getElem?
  intro i
  have hg : o + d.length ≤ (grownTo l (o + d.length)).length := by rw [length_grownTo]; omega
  rw [subL_get]
  unfold wseen
  rw [splice_get _ _ _ hg]
  by_cases c : i < n
  · rw [if_pos c, if_neg (by omega), if_pos (by omega)]
    congr 1
    omega
  · rw [if_neg c, List.getElem?_eq_none (by omega)]
theorem subL_wseen_off (l : List UInt8) (o : Nat) (d : List UInt8) (a n : Nat) (h : a + n ≤ o ∨ o + d.length ≤ a) (hl : a + n ≤ l.length) : subL (wseen l o d) a n = subL l a n := by
  apply List.ext_getElem?
  intro i
  have hg : o + d.length ≤ (grownTo l (o + d.length)).length := by rw [length_grownTo]; omega
  rw [subL_get, subL_get]
  unfold wseen
  rw [splice_get _ _ _ hg]
  by_cases c : i < n
  · rw [if_pos c, if_pos c]
    rcases h with h | h
    · rw [if_pos (by omega), grown_get _ _ _ (by omega)]
    · rw [if_neg (by omega), if_neg (by omega), grown_get _ _ _ (by omega)]
  · rw [if_neg c, if_neg c]
theorem subL_take (l : List UInt8) (m a n : Nat) (h : a + n ≤ m) : subL (l.take m) a n = subL l a n := by
  apply List.ext_getElem?
  intro i
  rw [subL_get, subL_get]
  by_cases c : i < n
  · rw [if_pos c, if_pos c, List.getElem?_take, if_pos (by omega)]
  · rw [if_neg c, if_neg c]
theorem subL_zero (l : List UInt8) (n : Nat) : subL l 0 n = l.take n := rfl
theorem subL_sub (l : List UInt8) (o n a k : Nat) (h : a + k ≤ n) : subL (subL l o n) a k = subL l (o + a) k := by
  apply List.ext_getElem?
  intro i
  rw [subL_get, subL_get, subL_get]
  by_cases c : i < k
  · rw [if_pos c, if_pos c, if_pos (by omega)]
    congr 1
    omega
  · rw [if_neg c, if_neg c]
theorem hdw_seal {l : List UInt8} {a b c d : Nat} (ha : a < 4294967296) (hb : b < 4294967296) (hc : c < 4294967296) (hd' : d < 4294967296) (h : l.take 64 = sealB a b c d) : hdw l 0 = a ∧ hdw l 1 = b ∧ hdw l 2 = c ∧ hdw l 3 = d := by
  have hl : ¬ l.length < 64 := by
    have := congrArg List.length h
    rw [List.length_take, sealB_length] at this
    omega
  have e := hd_eq l
  unfold hd at e
  rw [if_neg hl, h, say_of _ a b c d ha hb hc hd' (seal_says _ _ _ _)] at e
  simp only [Array.mk.injEq, List.cons.injEq, Value.int.injEq, true_and, and_true] at e
  omega
theorem neDJ : nmD ≠ nmJ := by decide
theorem set_same (f : Vw) (nm : ByteArray) (l : List UInt8) : f.set nm l nm = l := if_pos rfl
theorem set_other (f : Vw) {nm nm' : ByteArray} (h : nm' ≠ nm) (l : List UInt8) : f.set nm l nm' = f nm' := if_neg h
/-- A step that leaves a file alone. -/
def Stp.off (nm : ByteArray) : Stp → Prop
  | .put nm' _ _ => nm ≠ nm'
  | .cut nm' _ => nm ≠ nm'
  | .sync _ => True
theorem on_off {f : Vw} {nm : ByteArray} {s : Stp} (h : s.off nm) : s.on f nm = f nm := by
  cases s with
  | put nm' a d => exact set_other f h _
  | cut nm' n => exact set_other f h _
  | sync nm' => rfl
theorem on_putJ (f : Vw) (d : List UInt8) : (Stp.put nmJ 0 (bstr d)).on f nmJ = wseen (f nmJ) 0 d := by
  show Vw.set f nmJ (wseen (f nmJ) 0 (bstr d).data.toList) nmJ = _
  rw [set_same, bstr_data]
theorem on_cutD (f : Vw) {n : Nat} (h : n ≤ (f nmD).length) : (Stp.cut nmD n).on f nmD = (f nmD).take n := by
  show Vw.set f nmD (rsz (f nmD) n) nmD = _
  rw [set_same]
  unfold rsz
  rw [if_pos h]
theorem vw_off {f : Vw} {S : Nat → Stp} {nm : ByteArray} : ∀ {k : Nat}, (∀ j, j < k → (S j).off nm) → vw f S k nm = f nm
  | 0, _ => rfl
  | k + 1, h => (on_off (h k (Nat.lt_succ_self k))).trans (vw_off (fun j hj => h j (by omega)))
def catS (S : Nat → Stp) (n : Nat) (S' : Nat → Stp) : Nat → Stp := fun k => if k < n then S k else S' (k - n)
theorem catS_lt {S S' : Nat → Stp} {n k : Nat} (h : k < n) : catS S n S' k = S k := if_pos h
theorem catS_ge {S S' : Nat → Stp} {n : Nat} (k : Nat) : catS S n S' (n + k) = S' k := by
  unfold catS
  rw [if_neg (by omega), Nat.add_sub_cancel_left]
theorem vw_le {f : Vw} {S S' : Nat → Stp} {n : Nat} : ∀ {k : Nat}, k ≤ n → vw f (catS S n S') k = vw f S k
  | 0, _ => rfl
  | k + 1, h => by
    show (catS S n S' k).on (vw f (catS S n S') k) = (S k).on (vw f S k)
    rw [catS_lt (by omega), vw_le (by omega)]
theorem vw_add {f : Vw} {S S' : Nat → Stp} {n : Nat} : ∀ (k : Nat), vw f (catS S n S') (n + k) = vw (vw f S n) S' k
  | 0 => vw_le (Nat.le_refl _)
  | k + 1 => by
    show (catS S n S' (n + k)).on (vw f (catS S n S') (n + k)) = (S' k).on (vw (vw f S n) S' k)
    rw [catS_ge, vw_add k]
theorem take_wseen0 (l d : List UInt8) (h : d.length = 64) : (wseen l 0 d).take 64 = d := by
  have := subL_wseen_at l 0 d 64 h
  rwa [subL_zero] at this
/-- Pages written into the database. -/
def pgS (N : Nat → Nat) (L : Nat → List UInt8) : Nat → Stp := fun k => .put nmD (256 * (N k - 1)) (bstr (L k))
/-- Pages written into the database. -/
theorem pgs_view (f : Vw) (N : Nat → Nat) (L : Nat → List UInt8) (n : Nat) (hL : ∀ j, j < n → (L j).length = 256) (hN : ∀ j, j < n → 1 ≤ N j) : ∀ k, k ≤ n →
    (f nmD).length ≤ (vw f (pgS N L) k nmD).length ∧ (∀ j, j < k → 256 * N j ≤ (vw f (pgS N L) k nmD).length) ∧ (∀ B, (f nmD).length ≤ B → (∀ j, j < n → 256 * N j ≤ B) → (vw f (pgS N L) k nmD).length ≤ B) ∧
    (∀ p, 1 ≤ p → (∃ j, j < k ∧ N j = p ∧ pgL (vw f (pgS N L) k nmD) p = L j) ∨ ((∀ j, j < k → N j ≠ p) ∧ (256 * p ≤ (f nmD).length → pgL (vw f (pgS N L) k nmD) p = pgL (f nmD) p))) ∧ vw f (pgS N L) k nmJ = f nmJ
  | 0, _ => ⟨Nat.le_refl _, fun j hj => by omega, fun B h _ => h, fun p hp => .inr ⟨fun j hj => by omega, fun _ => rfl⟩, rfl⟩
  | k + 1, hk => by
    obtain ⟨h1, h2, h3, h4, h5⟩ := pgs_view f N L n hL hN k (by omega)
    have e : vw f (pgS N L) (k + 1) = (vw f (pgS N L) k).set nmD (wseen (vw f (pgS N L) k nmD) (256 * (N k - 1)) (L k)) := by
      show (vw f (pgS N L) k).set nmD (wseen (vw f (pgS N L) k nmD) (256 * (N k - 1)) (bstr (L k)).data.toList) = _
      rw [bstr_data]
    have hl := hL k (by omega)
    have hn := hN k (by omega)
    rw [e, set_same, set_other _ (Ne.symm neDJ)]
    generalize hV : vw f (pgS N L) k nmD = V at h1 h2 h3 h4
    have hw : (wseen V (256 * (N k - 1)) (L k)).length = max V.length (256 * N k) := by rw [length_wseen, hl]; omega
    rw [hw]
    refine ⟨by omega, fun j hj => ?_, fun B hB hB2 => ?_, fun p hp => ?_, h5⟩
    · by_cases c : j = k
      · subst c; omega
      · have := h2 j (by omega); omega
    · have := h3 B hB hB2
      have := hB2 k (by omega)
      omega
    · by_cases c : N k = p
      · exact .inl ⟨k, by omega, c, by subst c; exact subL_wseen_at _ _ _ _ hl⟩
      · have hoff : 256 * p ≤ V.length → pgL (wseen V (256 * (N k - 1)) (L k)) p = pgL V p := fun hp2 => subL_wseen_off _ _ _ _ _ (by rw [hl]; omega) (by omega)
        rcases h4 p hp with ⟨j, g1, g2, g3⟩ | ⟨g1, g2⟩
        · refine .inl ⟨j, by omega, g2, ?_⟩
          rw [hoff (by have := h2 j g1; rw [g2] at this; exact this)]; exact g3
        · refine .inr ⟨fun j hj => ?_, fun hp2 => ?_⟩
          · by_cases c2 : j = k
            · subst c2; exact c
            · exact g1 j (by omega)
          · rw [hoff (by omega)]; exact g2 hp2
theorem pgs_ok (f : Vw) (N : Nat → Nat) (L : Nat → List UInt8) (n : Nat) (hL : ∀ j, j < n → (L j).length = 256) (hN : ∀ j, j < n → 1 ≤ N j ∧ N j ≤ 20) (k : Nat) (hk : k < n) : (pgS N L k).ok f := by
  have := hN k hk
  refine ⟨.inl rfl, ?_, ?_, ?_⟩ <;> rw [bstr_size, hL k hk] <;> omega
/-- A database is its pages. -/
theorem db_ext {l l' : List UInt8} {c : Nat} (h : l.length = 256 * c) (h' : l'.length = 256 * c) (hp : ∀ p, 1 ≤ p → p ≤ c → pgL l p = pgL l' p) : l = l' := by
  apply List.ext_getElem?
  intro i
  by_cases hi : i < 256 * c
  · have e := congrArg (fun x => x[i % 256]?) (hp (i / 256 + 1) (by omega) (by omega))
    have g : ∀ x : List UInt8, (pgL x (i / 256 + 1))[i % 256]? = x[i]? := fun x => by
      have := subL_get x (256 * (i / 256 + 1 - 1)) 256 (i % 256)
      rw [if_pos (Nat.mod_lt _ (by omega)), show 256 * (i / 256 + 1 - 1) + i % 256 = i by omega] at this
      exact this
    simpa only [g] using e
  · rw [List.getElem?_eq_none (by omega), List.getElem?_eq_none (by omega)]
/-- A head, and its sync. -/
def hdSt (q : List UInt8) : Nat → Stp
  | 0 => .put nmJ 0 (bstr q)
  | _ => .sync nmJ
end Go.Proofs.YteocmhbllckpjaaGreat
