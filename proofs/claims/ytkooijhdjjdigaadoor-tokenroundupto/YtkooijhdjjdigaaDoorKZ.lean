/- TokenRound's walk, whatever the code's answers are proved by. -/
import Derived.Test.YtkooijhdjjdigaaDoorKX
namespace Go.Proofs.YtkooijhdjjdigaaDoor
open Go.ChangeShapes Go.WideShapes Go.ChangeAt Go.RowKit
set_option linter.unusedVariables false

set_option maxHeartbeats 2000000 in
set_option maxRecDepth 10000 in
theorem tokenRound_e (l : List Tg) (hl : l.length ≤ 140737488355328) (v : Value) (w : World) (hE : Env w) (hv : TgAt w v l) (H1 : ScanOk hd1) (H2 : ScanOk hd2) (HS : ∀ x : ByteArray, x.size ≤ 2000 → ScanOk x) (HP : PrintOk l) :
    Calls Tryd.prog 8 #[v] w fun e w' => e = .returned (.bool true) ∧ Below w.heap.size w w' := by
  have HE := hide (fun V (hV : Below w.heap.size w V) => hE.below hV)
  have HH := hide (fun V hV => head_e H1 H2 V hV)
  have hP := HP w v hE hv
  cases hm : (tgs l).mapM (fun x => wrt x.1 x.2) with
  | none =>
    rw [printV_no hm] at hP
    have HPr := hide hP
    clear hP HP HS hm hv
    go_enter Tryd.func8, Tryd.ntmps8
    go_wp2_with (first
      | (go_at_call 19; (with_reducible refine Calls.mono HPr.out ?_); rintro e w5 ⟨rfl, h2⟩; have HB5 := hide h2; clear h2)
      | (go_at_call 11; (with_reducible refine Calls.mono (HH.out _ (HE.out _ HB5.out)) ?_); rintro e w7 ⟨rfl, h2⟩; have HB7 := hide (below_trans HB5.out h2); clear h2))
    go_ret
    exact ⟨rfl, HB7.out⟩
  | some ws =>
    rw [printV_ok hm] at hP
    obtain ⟨PT, hPT⟩ : ∃ PT : ByteArray, (⟨(joinW ws).toArray⟩ : ByteArray) = PT := ⟨_, rfl⟩
    rw [hPT] at hP
    have hPl : PT.data.toList = joinW ws := by rw [← hPT]
    have hPs : PT.size = (joinW ws).length := by rw [← size_list, hPl]
    have HPr := hide hP
    by_cases hbig : 2000 < PT.size
    · have l1 : (2000 : Int) < (PT.size : Int) := by omega
      clear hP HP HS hm hv hPT hPl hPs
      go_enter Tryd.func8, Tryd.ntmps8
      go_wp2_with (first
        | (go_at_call 19; (with_reducible refine Calls.mono HPr.out ?_); rintro e w5 ⟨rfl, h2⟩; have HB5 := hide h2; clear h2)
        | (go_at_call 11; (with_reducible refine Calls.mono (HH.out _ (HE.out _ HB5.out)) ?_); rintro e w7 ⟨rfl, h2⟩; have HB7 := hide (below_trans HB5.out h2); clear h2))
      go_ret
      exact ⟨rfl, HB7.out⟩
    have l1 : ¬ (2000 : Int) < (PT.size : Int) := by omega
    have hb := back_all (tgs l) ws hm [] [] (fun Y => by simp) brk_nil rfl
    rw [List.nil_append, List.append_nil, ← hPl] at hb
    have hR : scanR PT.data.toList = ((toksS PT.data.toList).1, 0, 0) := by
      unfold scanR
      rw [if_neg (by rw [size_list]; omega), hb.2, if_neg (by decide)]
    obtain ⟨M, hM⟩ : ∃ M, (toksS PT.data.toList).1 = M := ⟨_, rfl⟩
    rw [hM] at hR hb
    have hkk := hb.1
    have hML : M.length = l.length := by have := congrArg List.length hkk; simpa [kts, tgs] using this
    have HML := hide hML
    have HKK := hide hkk
    have HSc := hide (scanOk_of (HS PT (by omega)) hR)
    have e5 : ((M.length : Int) != (l.length : Int)) = false := by simp [bne, hML]
    have HV := hide hv
    obtain ⟨p1, c1, rfl, hcv⟩ := hv
    have HCV := hide hcv
    clear hP HP HS hm hPT hPl hPs hb hR hM hkk hML hcv hbig H1 H2
    go_enter Tryd.func8, Tryd.ntmps8
    go_wp2_with (first
      | (go_at_call 19; (with_reducible refine Calls.mono HPr.out ?_); rintro e w5 ⟨rfl, h2⟩; have HB5 := hide h2; clear h2)
      | (go_at_call 11; (with_reducible refine Calls.mono (HH.out _ (HE.out _ HB5.out)) ?_); rintro e w7 ⟨rfl, h2⟩; have HB7 := hide (below_trans HB5.out h2); clear h2)
      | (go_at_call 9; (with_reducible refine Calls.mono (HSc.out _ (HE.out _ HB7.out)) ?_); rintro e w9 ⟨v2, rfl, h1, h2⟩; have HM9 := hide h1; obtain ⟨p2, c2, rfl⟩ := tkAt_len h1; have HB9 := hide (below_trans HB7.out h2); clear h1 h2))
    go_loopw [8] (fun iv wr => ∃ i : Nat, i ≤ l.length ∧ iv = .int .i64 (i : Int) ∧ Below w9.heap.size w9 wr) (fun iv _ => l.length - (intOf iv).toNat)
    case atStart => exact ⟨0, by omega, rfl, Below.refl _ _⟩
    case round =>
      obtain ⟨i, hi, rfl, hbel⟩ := hrel
      have HBr := hide hbel
      clear hbel
      by_cases hlt : i < l.length
      · have m1 : (i : Int) < (l.length : Int) := by omega
        have m2 : (i : Int) < (M.length : Int) := by have := HML.out; omega
        have m0 : (0 : Int) ≤ (i : Int) := by omega
        have hw3 : IntKind.i64.wrap ((i : Int) + 1) = ((i + 1 : Nat) : Int) := by rw [IntKind.wrap_i64]; omega
        obtain ⟨y, hy, _⟩ := get_some hlt
        obtain ⟨x, hx, _⟩ := get_some (l := M) (i := i) (by have := HML.out; omega)
        have hxy : (x.k : Int) = y.k ∧ x.t = y.t := by
          have h1 := congrArg (fun z => z[i]?) HKK.out
          simp only [kts, tgs, List.getElem?_map, hx, hy, Option.map_some, Option.some.injEq, Prod.mk.injEq] at h1
          exact h1
        obtain ⟨p, c0, e1, h1⟩ := HM9.out
        obtain ⟨rfl, -, rfl⟩ : p2 = p ∧ True ∧ c2 = c0 := by injection e1 with a1 a2 a3; exact ⟨a1, trivial, a3⟩
        obtain ⟨g2, rfl, r1⟩ := h1 (by omega)
        obtain ⟨k1, k2, k3⟩ := r1 wr HBr.out i x hx
        obtain ⟨g1, o1, rfl, r2⟩ := HCV.out (by omega)
        obtain ⟨k4, k5, k6⟩ := r2 wr (below_trans HB9.out HBr.out) i y hy
        obtain ⟨xk, xa, xt⟩ := x
        obtain ⟨yk, ya, yt⟩ := y
        obtain ⟨hxk, hxt⟩ := hxy
        simp only at k1 k2 k3 k4 k5 k6 hxk hxt
        subst hxt
        rw [hxk] at k1
        obtain ⟨XT, hXT⟩ : ∃ XT : ByteArray, (⟨xt.toArray⟩ : ByteArray) = XT := ⟨_, rfl⟩
        rw [hXT] at k3 k6
        have HC0 := hide (show wr.drew.cell? ⟨g2, i * 3, none⟩ = some (.int .i64 yk) ∧ wr.drew.cell? ⟨g2, i * 3 + 2, none⟩ = some (.string XT) ∧ wr.drew.cell? ⟨g1, o1 + i * 3, none⟩ = some (.int .i64 yk) ∧ wr.drew.cell? ⟨g1, o1 + i * 3 + 2, none⟩ = some (.string XT) from ⟨k1, k3, k4, k6⟩)
        clear hx hy h1 r1 r2 e1 hXT hxk k1 k2 k3 k4 k5 k6
        go_upto_region 12 with fail
        go_region_held3 (fun V => V.cell? ⟨g2, i * 3, none⟩ = some (.int .i64 yk) ∧ V.cell? ⟨g2, i * 3 + 2, none⟩ = some (.string XT) ∧ V.cell? ⟨g1, o1 + i * 3, none⟩ = some (.int .i64 yk) ∧ V.cell? ⟨g1, o1 + i * 3 + 2, none⟩ = some (.string XT)) (exact HC0.out) (fail)
        go_wp2
        go_roundw
        case rel => exact ⟨i + 1, by omega, rfl, below_trans HBr.out (below_drew _)⟩
        case measure => simp [intOf]; omega
      · have hie : i = l.length := by omega
        have m1 : ¬ (l.length : Int) < (l.length : Int) := by omega
        subst hie
        go_wp2
        go_ret
        exact ⟨rfl, below_trans HB9.out HBr.out⟩
end Go.Proofs.YtkooijhdjjdigaaDoor
