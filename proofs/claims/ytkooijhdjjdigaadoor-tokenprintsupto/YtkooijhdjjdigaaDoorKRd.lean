/- The document's Print. -/
import Derived.Test.YtkooijhdjjdigaaDoorKRc
namespace Go.Proofs.YtkooijhdjjdigaaDoor
open Go.ChangeShapes Go.WideShapes Go.ChangeAt Go.RowKit
set_option linter.unusedVariables false

theorem written_e (k a : Int) (t : ByteArray) (ht : t.size ≤ 4000000000000) (w : World) :
    Calls Tryd.prog 37 #[.agg #[.int .i64 k, .int .i64 a, .string t]] w fun e w' => ∃ r, e = .returned (.tuple #[.string r, .bool (wrt k t.data.toList).isSome]) ∧ WrtR k t.data.toList r ∧ Below w.heap.size w w' := by
  by_cases h3 : k = 3
  · subst h3
    have hw : wrt 3 t.data.toList = some (39 :: (esc t.data.toList ++ [39])) := by unfold wrt; rw [if_pos rfl]
    rw [hw]
    exact (written3 a t (by omega) w).mono fun e w' h => ⟨_, h.1, fun s hs => by rw [hw] at hs; injection hs, h.2⟩
  by_cases h4 : k = 4
  · subst h4
    have hw : wrt 4 t.data.toList = some (120 :: 39 :: (hexs t.data.toList ++ [39])) := by unfold wrt; rw [if_neg (by decide), if_pos rfl]
    rw [hw]
    exact (written4 a t (by omega) w).mono fun e w' h => ⟨_, h.1, fun s hs => by rw [hw] at hs; injection hs, h.2⟩
  by_cases h5 : k = 5
  · subst h5; exact writtenP a t ht w
  · exact writtenB k a h3 h4 h5 t ht w
/-- How long what is printed may be. -/
def totL (l : List Tg) : Nat := (l.map fun x => 2 * x.t.length + 4).sum
theorem totL_take {l : List Tg} {i : Nat} {x : Tg} (h : l[i]? = some x) : totL (l.take (i + 1)) = totL (l.take i) + (2 * x.t.length + 4) := by
  unfold totL
  rw [List.take_add_one, h]
  simp
theorem totL_le (l : List Tg) (i : Nat) : totL (l.take i) ≤ totL l := by
  unfold totL
  have h := congrArg (fun z => (List.map (fun x : Tg => 2 * x.t.length + 4) z).sum) (List.take_append_drop i l)
  simp only [List.map_append, List.sum_append] at h
  omega
theorem joinW_snoc : ∀ (ws : List (List UInt8)) (w : List UInt8), joinW (ws ++ [w]) = if ws = [] then w else joinW ws ++ 32 :: w
  | [], w => rfl
  | [a], w => by simp [joinW]
  | a :: b :: r, w => by
    have ih := joinW_snoc (b :: r) w
    rw [if_neg (by simp)] at ih ⊢
    show a ++ 32 :: joinW ((b :: r) ++ [w]) = _
    rw [ih]
    simp [joinW]
theorem mapM_snoc {l : List (Int × List UInt8)} {ws : List (List UInt8)} {x : Int × List UInt8} (h : (l.mapM fun x => wrt x.1 x.2) = some ws) : ((l ++ [x]).mapM fun x => wrt x.1 x.2) = (wrt x.1 x.2).map fun w => ws ++ [w] := by
  rw [List.mapM_append, h]
  cases hw : wrt x.1 x.2 with
  | none => simp [hw]
  | some w => simp [hw]
theorem mapM_len : ∀ (l : List (Int × List UInt8)) (ws : List (List UInt8)), (l.mapM fun x => wrt x.1 x.2) = some ws → ws.length = l.length
  | [], ws, h => by rw [mapM_nil h rfl]; rfl
  | x :: l, ws, h => by
    obtain ⟨w, vs, rfl, _, hv⟩ := mapM_cons h
    simp [mapM_len l vs hv]
theorem mapM_stop {l r : List (Int × List UInt8)} {x : Int × List UInt8} (hx : wrt x.1 x.2 = none) : ((l ++ x :: r).mapM fun x => wrt x.1 x.2) = none := by
  rw [List.mapM_append]
  cases hl : l.mapM fun x => wrt x.1 x.2 with
  | none => rfl
  | some ws => rw [List.mapM_cons, hx]; rfl
theorem join_tot : ∀ (l : List Tg) (ws : List (List UInt8)), ((tgs l).mapM fun x => wrt x.1 x.2) = some ws → (joinW ws).length ≤ totL l
  | [], ws, h => by obtain rfl := mapM_nil h rfl; simp [joinW]
  | x :: l, ws, h => by
    obtain ⟨w, vs, rfl, hw, hv⟩ := mapM_cons h
    have h1 := wrt_len hw
    have h2 := join_tot l vs hv
    have h3 := joinW_len w vs
    simp only at h1
    unfold totL at h2 ⊢
    simp only [List.map_cons, List.sum_cons]
    omega
set_option maxHeartbeats 4000000 in
set_option maxRecDepth 10000 in
theorem rprint_e (l : List Tg) (hl : l.length ≤ 140737488355328) (hx : ∀ x ∈ l, x.t.length ≤ 4000000000000) (htot : totL l ≤ 9000000000000000000) (w : World) (v : Value) (hv : TgAt w v l) :
    Calls Tryd.prog 20 #[v] w fun e w' => e = .returned (printV l) ∧ Below w.heap.size w w' := by
  obtain ⟨R, hR⟩ : ∃ R, printV l = R := ⟨_, rfl⟩
  rw [hR]
  have HR := hide hR
  obtain ⟨p1, c1, rfl, hcv⟩ := hv
  have HCV := hide hcv
  clear hR hcv
  go_enter Tryd.func20, Tryd.ntmps20
  go_wp2
  go_loopw [4, 5] (fun sv iv wr => ∃ (i : Nat) (A : ByteArray) (ws : List (List UInt8)), i ≤ l.length ∧ sv = .string A ∧ iv = .int .i64 (i : Int) ∧ ((tgs (l.take i)).mapM fun x => wrt x.1 x.2) = some ws ∧ A.data.toList = joinW ws ∧ Below w.heap.size w wr) (fun _ iv _ => l.length - (intOf iv).toNat)
  case atStart => exact ⟨0, ⟨#[]⟩, [], Nat.zero_le _, rfl, rfl, rfl, rfl, Below.refl _ _⟩
  case round =>
    obtain ⟨i, A, ws, hi, rfl, rfl, hws, hA, hbel⟩ := hrel
    have HB := hide hbel
    clear hbel
    have hAs : A.size ≤ totL (l.take i) := by rw [← size_list, hA]; exact join_tot _ ws hws
    by_cases hlt : i < l.length
    · have m1 : (i : Int) < (l.length : Int) := by omega
      have m0 : (0 : Int) ≤ (i : Int) := by omega
      have hw3 : IntKind.i64.wrap ((i : Int) + 1) = ((i + 1 : Nat) : Int) := by rw [IntKind.wrap_i64]; omega
      obtain ⟨y, hy, hdy⟩ := get_some hlt
      have hyl := hx y (List.mem_of_getElem? hy)
      have ht1 := totL_take hy
      have ht2 := totL_le l (i + 1)
      obtain ⟨g1, o1, rfl, r2⟩ := HCV.out (by omega)
      obtain ⟨k4, k5, k6⟩ := r2 wr HB.out i y hy
      obtain ⟨yk, ya, yt⟩ := y
      simp only at k4 k5 k6 hyl ht1
      obtain ⟨YT, hYT⟩ : ∃ XT : ByteArray, (⟨yt.toArray⟩ : ByteArray) = XT := ⟨_, rfl⟩
      have hYl : YT.data.toList = yt := by rw [← hYT]
      rw [hYT] at k6
      have hW := fun V => written_e yk ya YT (by rw [← size_list, hYl]; omega) V
      rw [hYl] at hW
      have hlist : l = l.take i ++ ⟨yk, ya, yt⟩ :: l.drop (i + 1) := by rw [← hdy, List.take_append_drop]
      cases hw : wrt yk yt with
      | none =>
        have hpr := printV_no (l := l) (by
          rw [hlist]
          simp only [tgs, List.map_append, List.map_cons]
          exact mapM_stop hw)
        rw [HR.out] at hpr
        have HN := hide hpr
        rw [hw] at hW
        have HWr := hide hW
        clear hW hlist hYl hYT hw hy hdy hws hA hx hpr r2 ht1 ht2 hAs htot hyl
        go_wp2_with (first
          | (go_at_call 37; (with_reducible refine Calls.mono (HWr.out _) ?_); rintro e w5 ⟨r, rfl, h1, h2⟩; have HB5 := hide (below_trans HB.out h2); clear h1 h2))
        go_ret2
        rw [HN.out]
        exact ⟨rfl, HB5.out⟩
      | some ww =>
        have hwl := wrt_len hw
        have hstep : ((tgs (l.take (i + 1))).mapM fun x => wrt x.1 x.2) = some (ws ++ [ww]) := by
          rw [List.take_add_one, hy]
          simp only [tgs, Option.toList_some, List.map_append, List.map_cons, List.map_nil]
          have := mapM_snoc (x := (yk, yt)) hws
          simp only [hw, Option.map_some] at this
          exact this
        rw [hw] at hW
        have hjs := joinW_snoc ws ww
        have hwsl := mapM_len _ _ hws
        rw [show (tgs (l.take i)).length = i by simp [tgs]; omega] at hwsl
        have HSt := hide hstep
        have HWr := hide hW
        by_cases hi0 : i = 0
        · subst hi0
          simp only [Nat.zero_mul, Nat.add_zero] at k4 k5 k6
          obtain rfl : ws = [] := List.length_eq_zero_iff.1 hwsl
          rw [if_pos rfl] at hjs
          have HJ := hide hjs
          have hA0 : A = ⟨#[]⟩ := ba_eq hA
          subst hA0
          have HCat := hide (fun (r : ByteArray) (h : WrtR yk yt r) (V : World) => show (Op.stringOp BinOp.add { data := #[] } r).run Tryd.prog V = .ok (.string ({ data := #[] } ++ r)) V from run_string_add_sum V _ _ (by
            have := congrArg List.length (h ww hw)
            rw [size_list] at this
            show 0 + r.size ≤ _
            omega))
          have HRl := hide (fun (r : ByteArray) (h : WrtR yk yt r) => show (({ data := #[] } : ByteArray) ++ r).data.toList = joinW ([] ++ [ww]) from by rw [app_list, h ww hw, hjs]; rfl)
          clear hW hlist hYl hYT hw hy hdy hws hA hx r2 ht1 ht2 hAs htot hyl hstep hjs hwsl hwl
          go_wp2_with (first
            | (go_at_call 37; (with_reducible refine Calls.mono (HWr.out _) ?_); rintro e w5 ⟨r, rfl, h1, h2⟩; have HB5 := hide (below_trans HB.out h2); have hcat := HCat.out r h1; have HRl2 := hide (HRl.out r h1); clear h1 h2))
          go_roundw
          case rel => exact ⟨0 + 1, _, _, by omega, rfl, rfl, HSt.out, HRl2.out, HB5.out⟩
          case measure => simp [intOf]; omega
        · have g0 : (0 : Int) < (i : Int) := by omega
          rw [if_neg (by intro e; rw [e] at hwsl; simp at hwsl; omega)] at hjs
          obtain ⟨A1, hA1⟩ : ∃ A1, A ++ ({ data := #[32] } : ByteArray) = A1 := ⟨_, rfl⟩
          have hs1 : A1.size = A.size + 1 := by rw [← size_list, ← hA1, app_list, List.length_append, size_list, size_list]; rfl
          have hc1 : ∀ V, (Op.stringOp BinOp.add A { data := #[32] }).run Tryd.prog V = .ok (.string A1) V := fun V => by rw [← hA1]; exact run_string_add_sum V _ _ (by show A.size + 1 ≤ _; omega)
          have HCat := hide (fun (r : ByteArray) (h : WrtR yk yt r) (V : World) => show (Op.stringOp BinOp.add A1 r).run Tryd.prog V = .ok (.string (A1 ++ r)) V from run_string_add_sum V _ _ (by
            have := congrArg List.length (h ww hw)
            rw [size_list] at this
            omega))
          have HRl := hide (fun (r : ByteArray) (h : WrtR yk yt r) => show (A1 ++ r).data.toList = joinW (ws ++ [ww]) from by rw [app_list, h ww hw, hjs, ← hA1, app_list, hA]; simp)
          clear hW hlist hYl hYT hw hy hdy hws hA hx r2 ht1 ht2 hAs htot hyl hstep hjs hwsl hwl hA1 hs1 hi0
          go_wp2_with (first
            | (go_at_call 37; (with_reducible refine Calls.mono (HWr.out _) ?_); rintro e w5 ⟨r, rfl, h1, h2⟩; have HB5 := hide (below_trans HB.out h2); have hcat := HCat.out r h1; have HRl2 := hide (HRl.out r h1); clear h1 h2))
          go_roundw
          case rel => exact ⟨i + 1, _, _, by omega, rfl, rfl, HSt.out, HRl2.out, HB5.out⟩
          case measure => simp [intOf]; omega
    · have hie : i = l.length := by omega
      have m1 : ¬ (l.length : Int) < (l.length : Int) := by omega
      subst hie
      rw [List.take_of_length_le (Nat.le_refl _)] at hws
      have hpr := printV_ok hws
      rw [HR.out] at hpr
      have hAe : A = ⟨(joinW ws).toArray⟩ := ba_eq hA
      have HN := hide (show R = .tuple #[.string A, .int .i64 0] from by rw [hpr, hAe])
      clear hws hpr hAe hA hx hAs htot
      go_wp2
      go_ret2
      rw [HN.out]
      exact ⟨rfl, HB.out⟩
end Go.Proofs.YtkooijhdjjdigaaDoor
