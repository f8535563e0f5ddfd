/- Plain: what was read is printed, and read as it was behind blanks and a remark. Of no program. -/
import Derived.Test.YtkooijhdjjdigaaDoorKV
namespace Go.Proofs.YtkooijhdjjdigaaDoor
open Go.ChangeShapes Go.WideShapes Go.ChangeAt Go.RowKit
set_option linter.unusedVariables false

theorem wrd_take (r : List UInt8) : wrd (r.take (wrd r)) = wrd r := by
  induction r with
  | nil => rfl
  | cons c r ih =>
    rw [wrd_cons]
    split
    · rename_i h
      rw [List.take_succ_cons, wrd_cons, if_pos h, ih]
    · rfl
theorem dgs_take (r : List UInt8) : dgs (r.take (dgs r)) = dgs r := by
  induction r with
  | nil => rfl
  | cons c r ih =>
    rw [dgs_cons]
    split
    · rename_i h
      rw [List.take_succ_cons, dgs_cons, if_pos h, ih]
    · rfl
theorem head_take {r : List UInt8} {m : Nat} {P : Prop} (h : ¬ (P ∧ (r.head?.map UInt8.toNat) = some 39)) : ¬ (P ∧ ((r.take m).head?.map UInt8.toNat) = some 39) := by
  cases r with
  | nil => simp
  | cons d r =>
    cases m with
    | zero => simp
    | succ m => simpa using h
theorem tok_take {l : List UInt8} {n k : Nat} (h : tok l = some (n, k)) (h3 : k ≠ 3) (h4 : k ≠ 4) : tok (l.take n) = some (n, k) ∧ (k = 5 → ∃ r, l = 63 :: r) := by
  cases l with
  | nil => simp [tok] at h
  | cons c r =>
    have hn := tok_le _ _ _ h
    obtain ⟨m, rfl⟩ : ∃ m, n = m + 1 := ⟨n - 1, by omega⟩
    rw [List.take_succ_cons]
    rw [tok] at h
    rw [tok]
    split at h
    · cases hq : quo r with
      | none => rw [hq] at h; simp at h
      | some m => rw [hq] at h; simp at h; omega
    rename_i h39
    rw [if_neg h39]
    split at h
    · cases hq : blo false r.tail with
      | none => rw [hq] at h; simp at h
      | some m => rw [hq] at h; simp at h; omega
    rename_i hx
    rw [if_neg (head_take hx)]
    split at h
    · rename_i hl
      rw [if_pos hl]
      obtain ⟨rfl, rfl⟩ : wrd r = m ∧ 1 = k := by simpa using h
      rw [wrd_take]
      exact ⟨rfl, fun e => by omega⟩
    rename_i hl
    rw [if_neg hl]
    split at h
    · rename_i hl
      rw [if_pos hl]
      obtain ⟨rfl, rfl⟩ : dgs r = m ∧ 2 = k := by simpa using h
      rw [dgs_take]
      exact ⟨rfl, fun e => by omega⟩
    rename_i hl
    rw [if_neg hl]
    split at h
    · rename_i hl
      rw [if_pos hl]
      obtain ⟨rfl, rfl⟩ : dgs r = m ∧ 5 = k := by simpa using h
      rw [dgs_take]
      exact ⟨rfl, fun e => ⟨r, by rw [show c = 63 from UInt8.toNat_inj.1 hl]⟩⟩
    rename_i hl
    rw [if_neg hl]
    split at h
    · rename_i hp
      obtain ⟨rfl, rfl⟩ : m = 1 ∧ 6 = k := by simpa using h
      cases r with
      | nil => simp at hp
      | cons d r =>
        rw [if_pos (by simpa using hp)]
        exact ⟨rfl, fun e => by omega⟩
    rename_i hp
    split at h
    · rename_i hs
      obtain ⟨rfl, rfl⟩ : m = 0 ∧ 6 = k := by simpa using h
      rw [if_neg (by simp), if_pos hs]
      exact ⟨rfl, fun e => by omega⟩
    · simp at h
theorem wrt_read {l : List UInt8} {n k : Nat} (h : tok l = some (n, k)) : ∃ w, wrt (k : Int) (tokT (l.take n) k) = some w := by
  unfold wrt
  by_cases h3 : k = 3
  · exact ⟨_, if_pos (by omega)⟩
  by_cases h4 : k = 4
  · exact ⟨_, by rw [if_neg (by omega), if_pos (by omega)]⟩
  obtain ⟨ht, h5⟩ := tok_take h h3 h4
  have hle := tok_le _ _ _ h
  have hb : bare (k : Int) (tokT (l.take n) k) = l.take n := by
    unfold bare tokT
    rw [if_neg h3, if_neg h4]
    by_cases e5 : k = 5
    · obtain ⟨r, rfl⟩ := h5 e5
      rw [if_pos (by omega), if_pos e5]
      obtain ⟨m, rfl⟩ : ∃ m, n = m + 1 := ⟨n - 1, by omega⟩
      rw [List.take_succ_cons]; rfl
    · rw [if_neg (by omega), if_neg e5]
  refine ⟨l.take n, ?_⟩
  rw [if_neg (by omega), if_neg (by omega), hb, if_pos ⟨by omega, by rw [ht, List.length_take, Nat.min_eq_left hle.2]; rfl⟩]
theorem toks_wrt : ∀ (f : Nat) (l : List UInt8) (a : Nat), ∃ ws, (kts (toks f l a).1).mapM (fun x => wrt x.1 x.2) = some ws
  | 0, l, a => ⟨[], rfl⟩
  | f + 1, [], a => ⟨[], by rw [toks_nil]; rfl⟩
  | f + 1, c :: r, a => by
    cases ht : tok (c :: r) with
    | none => exact ⟨[], by rw [toks_bad ht]; rfl⟩
    | some nk =>
      obtain ⟨n, k⟩ := nk
      rw [toks_ok ht]
      obtain ⟨w, hw⟩ := wrt_read ht
      obtain ⟨ws, hws⟩ := toks_wrt f ((c :: r).drop (n + skp false ((c :: r).drop n))) (a + n + skp false ((c :: r).drop n))
      refine ⟨w :: ws, ?_⟩
      simp only [kts, List.map_cons] at hws ⊢
      rw [List.mapM_cons, hw]
      simp [hws]
theorem mapM_nil {l : List (Int × List UInt8)} {ws : List (List UInt8)} (h : (l.mapM fun x => wrt x.1 x.2) = some ws) (h0 : l = []) : ws = [] := by subst h0; simpa using h.symm
theorem mapM_cons {x : Int × List UInt8} {l : List (Int × List UInt8)} {ws : List (List UInt8)} (h : ((x :: l).mapM fun x => wrt x.1 x.2) = some ws) : ∃ w vs, ws = w :: vs ∧ wrt x.1 x.2 = some w ∧ (l.mapM fun x => wrt x.1 x.2) = some vs := by
  rw [List.mapM_cons] at h
  cases hw : wrt x.1 x.2 with
  | none => simp [hw] at h
  | some w =>
    cases hv : l.mapM fun x => wrt x.1 x.2 with
    | none => rw [hw, hv] at h; simp at h
    | some vs =>
      rw [hw, hv] at h
      exact ⟨w, vs, by simpa using h.symm, rfl, rfl⟩
/-- Blanks and remarks ahead, R behind: the tokens are read as they were. -/
theorem back_all (l : List (Int × List UInt8)) (ws : List (List UInt8)) (h : (l.mapM fun x => wrt x.1 x.2) = some ws) (P R : List UInt8) (hP : ∀ Y, skp false (P ++ Y) = P.length + skp false Y) (hR : Brk R) (hS : skp false R = R.length) :
    kts (toksS (P ++ joinW ws ++ R)).1 = l ∧ (toksS (P ++ joinW ws ++ R)).2.2 = -1 := by
  cases l with
  | nil =>
    obtain rfl : ws = [] := mapM_nil h rfl
    unfold toksS
    rw [joinW, List.append_nil, hP, hS, List.drop_of_length_le (by simp), toks_nil]
    exact ⟨rfl, rfl⟩
  | cons x l =>
    obtain ⟨w, vs, rfl, hw, hv⟩ := mapM_cons h
    obtain ⟨R', e, hR'⟩ := joinW_brk (w := w) (ws := vs) hR
    have h0 : skp false (joinW (w :: vs) ++ R) = 0 := by rw [e]; exact (wrt_tok hw hR').2.2.2.2
    unfold toksS
    rw [List.append_assoc, hP, h0]
    show kts (toks _ (List.drop P.length _) P.length).1 = _ ∧ (toks _ (List.drop P.length _) P.length).2.2 = _
    rw [List.drop_left]
    refine read_back (x :: l) (w :: vs) _ _ R (by simp) h hR hS ?_
    have h2 := (toks_rise ((joinW (w :: vs) ++ R).length + (x :: l).length + 1) (joinW (w :: vs) ++ R) 0 (joinW (w :: vs) ++ R).length (by simp)).few
    have h3 := (read_back (x :: l) (w :: vs) ((joinW (w :: vs) ++ R).length + (x :: l).length + 1) 0 R (by simp) h hR hS (by omega)).1
    have h4 := congrArg List.length h3
    simp only [kts, List.length_map] at h4
    rw [h4] at h2
    simp only [List.length_append] at h2 ⊢
    omega
theorem betw_ok (s : List UInt8) (h : (scanR s).2.2 = 0) : ∃ ws, ((kts (scanR s).1).mapM fun x => wrt x.1 x.2) = some ws ∧ (scanR s).2.1 = 0 ∧
    ((joinW ws).length ≤ 1995 → (scanR (32 :: 45 :: 45 :: 10 :: (joinW ws ++ [10]))).2.2 = 0 ∧ kts (scanR (32 :: 45 :: 45 :: 10 :: (joinW ws ++ [10]))).1 = kts (scanR s).1) ∧
    (1995 < (joinW ws).length → (scanR (32 :: 45 :: 45 :: 10 :: (joinW ws ++ [10]))).2.2 = 3 ∧ (scanR (32 :: 45 :: 45 :: 10 :: (joinW ws ++ [10]))).1 = []) := by
  have e1 : scanR s = ((toksS s).1, 0, 0) := by
    unfold scanR at h ⊢
    split
    · rename_i h1; rw [if_pos h1] at h; simp at h
    · rename_i h1
      rw [if_neg h1] at h
      split
      · rename_i h2; rw [if_pos h2] at h; simp at h
      · rfl
  rw [e1]
  obtain ⟨ws, hws⟩ := toks_wrt (s.length + 1) (s.drop (skp false s)) (skp false s)
  refine ⟨ws, hws, rfl, fun hl => ?_, fun hl => ?_⟩
  · have hb := back_all _ ws hws [32, 45, 45, 10] [10] (fun Y => ?_) (brk_line []) rfl
    · have e2 : [32, 45, 45, 10] ++ joinW ws ++ [10] = (32 :: 45 :: 45 :: 10 :: (joinW ws ++ [10]) : List UInt8) := by simp
      rw [e2] at hb
      have e3 : scanR (32 :: 45 :: 45 :: 10 :: (joinW ws ++ [10])) = ((toksS (32 :: 45 :: 45 :: 10 :: (joinW ws ++ [10]))).1, 0, 0) := by
        unfold scanR
        rw [if_neg (by simp; omega), hb.2, if_neg (by decide)]
      rw [e3]
      exact ⟨rfl, hb.1⟩
    · show skp false (32 :: 45 :: 45 :: 10 :: Y) = 4 + skp false Y
      rw [skp_blk (by decide), skp_rem (by decide) rfl rfl, skp_on (by decide), skp_on (by decide), skp_ten rfl, skp_blk (by decide)]
      omega
  · unfold scanR
    rw [if_pos (by simp; omega)]
    exact ⟨rfl, rfl⟩
theorem Rise.at_lt {hi : Nat} : ∀ {T : List Tk} {E : List Nat} {lo : Nat}, Rise hi lo T E → ∀ (i : Nat) (x : Tk), T[i]? = some x → lo ≤ x.a ∧ x.a < hi
  | [], [], _, _, i, x, h => by simp at h
  | t :: T, e :: E, _, h, 0, x, hx => by simp at hx; subst hx; have h1 := h.1; have h2 := h.2.1; have h3 := h.2.2.1; omega
  | t :: T, e :: E, _, h, i + 1, x, hx => by have h1 := h.1; have h2 := h.2.1; have := h.2.2.2.at_lt i x (by simpa using hx); omega
  | [], _ :: _, _, h, _, _, _ => h.elim
  | _ :: _, [], _, h, _, _, _ => h.elim
theorem Rise.at_next {hi : Nat} : ∀ {T : List Tk} {E : List Nat} {lo : Nat}, Rise hi lo T E → ∀ (i : Nat) (x y : Tk), T[i]? = some x → T[i + 1]? = some y → x.a < y.a
  | [], [], _, _, i, x, y, h, _ => by simp at h
  | t :: T, e :: E, _, h, 0, x, y, hx, hy => by simp at hx; subst hx; have h2 := h.2.1; have := h.2.2.2.at_lt 0 y (by simpa using hy); omega
  | t :: T, e :: E, _, h, i + 1, x, y, hx, hy => h.2.2.2.at_next i x y (by simpa using hx) (by simpa using hy)
  | [], _ :: _, _, h, _, _, _, _, _ => h.elim
  | _ :: _, [], _, h, _, _, _, _, _ => h.elim
end Go.Proofs.YtkooijhdjjdigaaDoor
