/- What Print is asked to answer; lists of tokens of any kinds; how long what is printed may be. -/
import Derived.Test.YtkooijhdjjdigaaDoorKW
import Derived.Test.YtkooijhdjjdigaaDoorKS
namespace Go.Proofs.YtkooijhdjjdigaaDoor
open Go.ChangeShapes Go.WideShapes Go.ChangeAt Go.RowKit
set_option linter.unusedVariables false

/-- A token of any kind and place. -/
structure Tg where
  k : Int
  a : Int
  t : List UInt8
def tgs (l : List Tg) : List (Int × List UInt8) := l.map fun x => (x.k, x.t)
def tgOf (x : Tk) : Tg := ⟨(x.k : Int), (x.a : Int), x.t⟩
theorem tgs_kts (T : List Tk) : tgs (T.map tgOf) = kts T := by simp [tgs, kts, tgOf]
/-- A list of tokens in memory, and in every later world. -/
def TgAt (w : World) (v : Value) (l : List Tg) : Prop := ∃ p c, v = .slice p l.length c ∧ (0 < l.length → ∃ g o, p = some ⟨g, o, none⟩ ∧ ∀ V, Below w.heap.size w V → ∀ (i : Nat) (x : Tg), l[i]? = some x → V.cell? ⟨g, o + i * 3, none⟩ = some (.int .i64 x.k) ∧ V.cell? ⟨g, o + i * 3 + 1, none⟩ = some (.int .i64 x.a) ∧ V.cell? ⟨g, o + i * 3 + 2, none⟩ = some (.string ⟨x.t.toArray⟩))
theorem tgAt_of {w : World} {v : Value} {T : List Tk} (h : TkAt w v T) : TgAt w v (T.map tgOf) := by
  obtain ⟨p, c, rfl, h⟩ := h
  refine ⟨p, c, by simp, fun h0 => ?_⟩
  obtain ⟨g, rfl, h2⟩ := h (by simpa using h0)
  refine ⟨g, 0, rfl, fun V hV i x hx => ?_⟩
  rw [List.getElem?_map] at hx
  obtain ⟨y, hy, rfl⟩ := Option.map_eq_some_iff.1 hx
  have := h2 V hV i y hy
  rw [Nat.zero_add]
  exact this
theorem TgAt.later {w w' : World} {v : Value} {l : List Tg} (h : TgAt w v l) (hb : Below w.heap.size w w') : TgAt w' v l := by
  obtain ⟨p, c, e, hc⟩ := h
  exact ⟨p, c, e, fun h0 => let ⟨g, o, e2, h2⟩ := hc h0; ⟨g, o, e2, fun V hV => h2 V (below_trans hb hV)⟩⟩
/-- What Print answers. -/
def printV (l : List Tg) : Value := match (tgs l).mapM (fun x => wrt x.1 x.2) with | some ws => .tuple #[.string ⟨(joinW ws).toArray⟩, .int .i64 0] | none => .tuple #[.string ⟨#[]⟩, .int .i64 2]
theorem printV_ok {l : List Tg} {ws : List (List UInt8)} (h : ((tgs l).mapM fun x => wrt x.1 x.2) = some ws) : printV l = .tuple #[.string ⟨(joinW ws).toArray⟩, .int .i64 0] := by unfold printV; rw [h]
theorem printV_no {l : List Tg} (h : ((tgs l).mapM fun x => wrt x.1 x.2) = none) : printV l = .tuple #[.string ⟨#[]⟩, .int .i64 2] := by unfold printV; rw [h]
theorem app_list (a b : ByteArray) : (a ++ b).data.toList = a.data.toList ++ b.data.toList := by
  rw [ByteArray.data_append, Array.toList_append]
theorem size_list (s : ByteArray) : s.data.toList.length = s.size := by simp
theorem tkAt_len {w : World} {v : Value} {l : List Tk} (h : TkAt w v l) : ∃ p c, v = .slice p l.length c := let ⟨p, c, e, _⟩ := h; ⟨p, c, e⟩

theorem unq_len : ∀ (l t : List UInt8), unq l = some t → t.length ≤ l.length
  | [], t, h => by simp [unq] at h; subst h; simp
  | [c], t, h => by
    rw [unq] at h
    split at h
    · simp at h
    · simp at h; subst h; simp
  | c :: d :: r, t, h => by
    rw [unq] at h
    split at h
    · split at h
      · obtain ⟨u, hu, rfl⟩ := Option.map_eq_some_iff.1 h
        have := unq_len r u hu
        simp; omega
      · simp at h
    · obtain ⟨u, hu, rfl⟩ := Option.map_eq_some_iff.1 h
      have := unq_len (d :: r) u hu
      simp at this ⊢; omega
theorem unhx_len : ∀ (l t : List UInt8), unhx l = some t → t.length ≤ l.length
  | [], t, h => by simp [unhx] at h; subst h; simp
  | [c], t, h => by simp [unhx] at h
  | a :: b :: r, t, h => by
    rw [unhx] at h
    cases ha : nibR a with
    | none => rw [ha] at h; simp at h
    | some x =>
      cases hb : nibR b with
      | none => rw [ha, hb] at h; simp at h
      | some y =>
        rw [ha, hb] at h
        obtain ⟨u, hu, rfl⟩ := Option.map_eq_some_iff.1 h
        have := unhx_len r u hu
        simp; omega
theorem tokT_len (l : List UInt8) (k : Nat) : (tokT l k).length ≤ l.length := by
  unfold tokT
  split
  · cases h : unq (l.dropLast.drop 1) with
    | none => simp
    | some t => have := unq_len _ _ h; simp at this ⊢; omega
  · split
    · cases h : unhx ((l.dropLast.drop 2).map lowB) with
      | none => simp
      | some t => have := unhx_len _ _ h; simp at this ⊢; omega
    · split
      · simp
      · exact Nat.le_refl _
theorem wrt_len {k : Int} {t w : List UInt8} (h : wrt k t = some w) : w.length ≤ 2 * t.length + 3 := by
  unfold wrt at h
  split at h
  · simp at h; subst h; have := esc_length t; simp; omega
  split at h
  · simp at h; subst h; have := hexs_length t; simp; omega
  split at h
  · simp at h; subst h
    unfold bare
    split
    · simp; omega
    · omega
  · simp at h
theorem joinW_len (w : List UInt8) (ws : List (List UInt8)) : (joinW (w :: ws)).length ≤ w.length + 1 + (joinW ws).length := by
  cases ws with
  | nil => simp [joinW]
  | cons v vs => simp [joinW]; omega
theorem toks_wlen : ∀ (f : Nat) (l : List UInt8) (a : Nat) (ws : List (List UInt8)), ((kts (toks f l a).1).mapM fun x => wrt x.1 x.2) = some ws → (joinW ws).length ≤ 6 * l.length
  | 0, l, a, ws, h => by obtain rfl := mapM_nil h rfl; simp [joinW]
  | f + 1, [], a, ws, h => by obtain rfl := mapM_nil h (by rw [toks_nil]; rfl); simp [joinW]
  | f + 1, c :: r, a, ws, h => by
    cases ht : tok (c :: r) with
    | none => obtain rfl := mapM_nil h (by rw [toks_bad ht]; rfl); simp [joinW]
    | some nk =>
      obtain ⟨n, k⟩ := nk
      have hle := tok_le _ _ _ ht
      rw [toks_ok ht] at h
      obtain ⟨w, vs, rfl, hw, hv⟩ := mapM_cons h
      have h1 := wrt_len hw
      have h2 := toks_wlen f _ _ vs hv
      have h3 := joinW_len w vs
      have h4 := tokT_len ((c :: r).take n) k
      simp only at h1
      rw [List.length_take, Nat.min_eq_left hle.2] at h4
      rw [List.length_drop] at h2
      omega
theorem scan_wlen (s : List UInt8) (ws : List (List UInt8)) (h : ((kts (toksS s).1).mapM fun x => wrt x.1 x.2) = some ws) : (joinW ws).length ≤ 6 * s.length := by
  have := toks_wlen _ _ _ ws h
  rw [List.length_drop] at this
  omega

theorem toks_tlen : ∀ (f : Nat) (l : List UInt8) (a : Nat), ∀ x ∈ (toks f l a).1, x.t.length ≤ l.length
  | 0, l, a, x, h => by simp [toks] at h
  | f + 1, [], a, x, h => by rw [toks_nil] at h; simp at h
  | f + 1, c :: l, a, x, h => by
    cases ht : tok (c :: l) with
    | none => rw [toks_bad ht] at h; simp at h
    | some y =>
      obtain ⟨n, k⟩ := y
      rw [toks_ok ht] at h
      rcases List.mem_cons.1 h with rfl | h
      · refine Nat.le_trans (tokT_len _ _) ?_
        rw [List.length_take]; omega
      · refine Nat.le_trans (toks_tlen f _ _ x h) ?_
        rw [List.length_drop]; omega
theorem scan_tlen (l : List UInt8) : ∀ x ∈ (scanR l).1, x.t.length ≤ l.length := by
  intro x hx
  unfold scanR at hx
  split at hx
  · simp at hx
  · split at hx
    · simp at hx
    · refine Nat.le_trans (toks_tlen _ _ _ x hx) ?_
      rw [List.length_drop]; omega
def PrintOk (l : List Tg) : Prop := ∀ (V : World) (v : Value), Env V → TgAt V v l → Calls Tryd.prog 19 #[v] V fun e w' => e = .returned (printV l) ∧ Below V.heap.size V w'
theorem scanOk_of {s : ByteArray} (h : ScanOk s) {T : List Tk} {a b : Int} (e : scanR s.data.toList = (T, a, b)) : ∀ V : World, Env V → Calls Tryd.prog 9 #[.string s] V fun e w' => ∃ v, e = .returned (.tuple #[v, .int .i64 a, .int .i64 b]) ∧ TkAt w' v T ∧ Below V.heap.size V w' := fun V hV => by
  have := h V hV
  rw [e] at this
  exact this
end Go.Proofs.YtkooijhdjjdigaaDoor
