/- TokenBetween's walk, whatever the code's answers are proved by. -/
import Derived.Test.YtkooijhdjjdigabDoorKX
namespace Go.Proofs.YtkooijhdjjdigabDoor
open Go.ChangeShapes Go.WideShapes Go.ChangeAt Go.RowKit
set_option linter.unusedVariables false

set_option maxHeartbeats 8000000 in
set_option maxRecDepth 10000 in
theorem tokenBetween_e (s more : ByteArray) (hs : s.size ≤ 140737488355328) (hm : more.size ≤ 140737488355328) (HS : ∀ x : ByteArray, ScanOk x) (HP : ∀ l : List Tg, l.length ≤ 4000 → (∀ x ∈ l, x.t.length ≤ 4000) → PrintOk l) (w : World) (hE : Env w) :
    Calls Tryd.prog 3 #[.string s, .string more] w fun e w' => e = .returned (.bool true) ∧ Below w.heap.size w w' := by
  have HE := hide (fun V (hV : Below w.heap.size w V) => hE.below hV)
  have HH := hide (fun V hV => head_e (HS hd1) (HS hd2) V hV)
  have hw1 : IntKind.i64.wrap ((s.size : Int) + (more.size : Int)) = (s.size : Int) + (more.size : Int) := by rw [IntKind.wrap_i64]; omega
  obtain ⟨T, a, b, hR⟩ : ∃ T a b, scanR s.data.toList = (T, a, b) := ⟨_, _, _, rfl⟩
  have HSc := hide (scanOk_of (HS s) hR)
  by_cases hbig : 1992 < s.size + more.size
  · have l1 : (1992 : Int) < (s.size : Int) + (more.size : Int) := by omega
    clear HS HP hR
    go_enter Tryd.func3, Tryd.ntmps3
    go_wp2_with (first
      | (go_at_call 4; (with_reducible refine Calls.mono (HSc.out _ (HE.out _ (Below.refl _ _))) ?_); rintro e w5 ⟨v1, rfl, h1, h2⟩; have HB5 := hide h2; clear h1 h2)
      | (go_at_call 5; (with_reducible refine Calls.mono (HH.out _ (HE.out _ HB5.out)) ?_); rintro e w7 ⟨rfl, h2⟩; have HB7 := hide (below_trans HB5.out h2); clear h2))
    go_ret
    exact ⟨rfl, HB7.out⟩
  have l1 : ¬ (1992 : Int) < (s.size : Int) + (more.size : Int) := by omega
  by_cases h0 : b = 0
  · subst h0
    obtain ⟨ws, hws, ha, hok, hlong⟩ := betw_ok s.data.toList (by rw [hR])
    rw [hR] at hws ha hok
    simp only at hws ha hok
    subst ha
    have hpv := printV_ok (l := T.map tgOf) (by rw [tgs_kts]; exact hws)
    have hwl : (joinW ws).length ≤ 12000 := by
      have hT : (toksS s.data.toList).1 = T := by
        unfold scanR at hR
        rw [if_neg (by rw [size_list]; omega)] at hR
        split at hR
        · simp at hR
        · exact congrArg (·.1) hR
      have := scan_wlen s.data.toList ws (by rw [hT]; exact hws)
      rw [size_list] at this
      omega
    have hPr := HP (T.map tgOf) (by have h := tk_len s.data.toList; rw [hR] at h; rw [List.length_map]; exact Nat.le_trans h (by decide)) (fun x hx => by
      obtain ⟨y, hy, rfl⟩ := List.mem_map.1 hx
      have h := scan_tlen s.data.toList y (by rw [hR]; exact hy)
      rw [size_list] at h
      show y.t.length ≤ 4000
      omega)
    unfold PrintOk at hPr
    rw [hpv] at hPr
    obtain ⟨PT, hPT⟩ : ∃ PT : ByteArray, (⟨(joinW ws).toArray⟩ : ByteArray) = PT := ⟨_, rfl⟩
    rw [hPT] at hPr
    have hPl : PT.data.toList = joinW ws := by rw [← hPT]
    have hPs : PT.size = (joinW ws).length := by rw [← size_list, hPl]
    obtain ⟨Y1, hY1⟩ : ∃ Y1, ({ data := #[32, 45, 45, 10] } : ByteArray) ++ PT = Y1 := ⟨_, rfl⟩
    obtain ⟨Y, hY⟩ : ∃ Y, Y1 ++ ({ data := #[10] } : ByteArray) = Y := ⟨_, rfl⟩
    have hYl : Y.data.toList = 32 :: 45 :: 45 :: 10 :: (joinW ws ++ [10]) := by
      rw [← hY, ← hY1, app_list, app_list, hPl]; rfl
    have hs1 : Y1.size = 4 + PT.size := by rw [← size_list, ← hY1, app_list, List.length_append, size_list]; rfl
    have hcat1 : ∀ V, (Op.stringOp BinOp.add { data := #[32, 45, 45, 10] } PT).run Tryd.prog V = .ok (.string Y1) V := fun V => by rw [← hY1]; exact run_string_add_sum V _ _ (by show 4 + PT.size ≤ _; omega)
    have hcat2 : ∀ V, (Op.stringOp BinOp.add Y1 { data := #[10] }).run Tryd.prog V = .ok (.string Y) V := fun V => by rw [← hY]; exact run_string_add_sum V _ _ (by show Y1.size + 1 ≤ _; omega)
    rw [← hYl] at hok hlong
    obtain ⟨M, c, d, hR2⟩ : ∃ M c d, scanR Y.data.toList = (M, c, d) := ⟨_, _, _, rfl⟩
    have HSY := hide (scanOk_of (HS Y) hR2)
    rw [hR2] at hok hlong
    simp only at hok hlong
    have HPr := hide hPr
    have htl := tk_len s.data.toList
    rw [hR] at htl
    have hrs : T = [] ∨ ∃ E, Rise s.size 0 T E := by
      unfold scanR at hR
      rw [if_neg (by rw [size_list]; omega)] at hR
      split at hR
      · simp at hR
      · right
        have := toksS_rise s.data.toList
        rw [size_list] at this
        have e : (toksS s.data.toList).1 = T := congrArg (·.1) hR
        exact ⟨(toksS s.data.toList).2.1, by rw [← e]; exact this⟩
    by_cases hlen : (joinW ws).length ≤ 1995
    · obtain ⟨rfl, hkk⟩ := hok hlen
      have hML : M.length = T.length := by have := congrArg List.length hkk; simpa [kts] using this
      have HML := hide hML
      have HKK := hide hkk
      have HRs := hide hrs
      have e5 : ((M.length : Int) != (T.length : Int)) = false := by simp [bne, hML]
      clear HS HP hR hR2 hok hlong hYl hY hY1 hs1 hPl hPT hPr hpv hws hkk hrs hbig hwl hPs hlen hML
      go_enter Tryd.func3, Tryd.ntmps3
      go_wp2_with (first
        | (go_at_call 4; (with_reducible refine Calls.mono (HSc.out _ (HE.out _ (Below.refl _ _))) ?_); rintro e w5 ⟨v1, rfl, h1, h2⟩; have HT5 := hide h1; obtain ⟨p1, c1, rfl⟩ := tkAt_len h1; have HB5 := hide h2; clear h1 h2)
        | (go_at_call 5; (with_reducible refine Calls.mono (HH.out _ (HE.out _ HB5.out)) ?_); rintro e w7 ⟨rfl, h2⟩; have HB7 := hide (below_trans HB5.out h2); have HT7 := hide (HT5.out.later h2); clear h2)
        | (go_at_call 7; (with_reducible refine Calls.mono (HPr.out _ _ (HE.out _ HB7.out) (tgAt_of HT7.out)) ?_); rintro e w8 ⟨rfl, h2⟩; have HB8 := hide (below_trans HB7.out h2); have HT8 := hide (HT7.out.later h2); clear h2)
        | (go_at_call 4; (with_reducible refine Calls.mono (HSY.out _ (HE.out _ HB8.out)) ?_); rintro e w9 ⟨v2, rfl, h1, h2⟩; have HM9 := hide h1; obtain ⟨p2, c2, rfl⟩ := tkAt_len h1; have HB9 := hide (below_trans HB8.out h2); have HT9 := hide (HT8.out.later h2); clear h1 h2))
      go_loopw [16] (fun iv wr => ∃ i : Nat, i ≤ M.length ∧ iv = .int .i64 (i : Int) ∧ Below w9.heap.size w9 wr) (fun iv _ => M.length - (intOf iv).toNat)
      case atStart => exact ⟨0, by omega, rfl, Below.refl _ _⟩
      case round =>
        obtain ⟨i, hi, rfl, hbel⟩ := hrel
        have HBr := hide hbel
        clear hbel
        by_cases hlt : i < M.length
        · have m1 : (i : Int) < (M.length : Int) := by omega
          have m2 : (i : Int) < (T.length : Int) := by have := HML.out; omega
          have m0 : (0 : Int) ≤ (i : Int) := by omega
          have hw3 : IntKind.i64.wrap ((i : Int) + 1) = ((i + 1 : Nat) : Int) := by rw [IntKind.wrap_i64]; omega
          obtain ⟨x, hx, _⟩ := get_some hlt
          obtain ⟨y, hy, _⟩ := get_some (l := T) (i := i) (by have := HML.out; omega)
          have hxy : x.k = y.k ∧ x.t = y.t := by
            have h1 := congrArg (fun z => z[i]?) HKK.out
            simp only [kts, List.getElem?_map, hx, hy, Option.map_some, Option.some.injEq, Prod.mk.injEq] at h1
            exact ⟨by omega, h1.2⟩
          obtain ⟨p, c0, e1, h1⟩ := HM9.out
          obtain ⟨rfl, -, rfl⟩ : p2 = p ∧ True ∧ c2 = c0 := by injection e1 with a1 a2 a3; exact ⟨a1, trivial, a3⟩
          obtain ⟨g2, rfl, r1⟩ := h1 (by omega)
          obtain ⟨k1, k2, k3⟩ := r1 wr HBr.out i x hx
          obtain ⟨p, c0, e2, h2⟩ := HT9.out
          obtain ⟨rfl, -, rfl⟩ : p1 = p ∧ True ∧ c1 = c0 := by injection e2 with a1 a2 a3; exact ⟨a1, trivial, a3⟩
          obtain ⟨g1, rfl, r2⟩ := h2 (by omega)
          obtain ⟨k4, k5, k6⟩ := r2 wr HBr.out i y hy
          obtain ⟨xk, xa, xt⟩ := x
          obtain ⟨yk, ya, yt⟩ := y
          obtain ⟨rfl, rfl⟩ := hxy
          simp only at k1 k2 k3 k4 k5 k6
          obtain ⟨XT, hXT⟩ : ∃ XT : ByteArray, (⟨xt.toArray⟩ : ByteArray) = XT := ⟨_, rfl⟩
          rw [hXT] at k3 k6
          have hat : ya < s.size ∧ ∀ (m : Nat) (z : Tk), i = m + 1 → T[m]? = some z → z.a < ya := by
            rcases HRs.out with hT | ⟨E, hE⟩
            · rw [hT] at hy; simp at hy
            · exact ⟨(hE.at_lt i _ hy).2, fun m z hm hz => hE.at_next m z _ hz (by rw [← hm]; exact hy)⟩
          have f1 : ¬ (ya : Int) < 0 := by omega
          have f2 : ¬ (s.size : Int) ≤ (ya : Int) := by omega
          have f3 : (0 : Int) ≤ (ya : Int) := by omega
          have f4 : (ya : Int) < (s.size : Int) := by omega
          by_cases hi0 : i = 0
          · have g0 : ¬ (0 : Int) < (i : Int) := by omega
            clear hi0 hat hx hy h1 h2 r1 r2 e1 e2 hXT
            have HC0 := hide (show wr.drew.cell? ⟨g2, i * 3, none⟩ = some (.int .i64 (xk : Int)) ∧ wr.drew.cell? ⟨g2, i * 3 + 2, none⟩ = some (.string XT) ∧ wr.drew.cell? ⟨g1, i * 3, none⟩ = some (.int .i64 (xk : Int)) ∧ wr.drew.cell? ⟨g1, i * 3 + 1, none⟩ = some (.int .i64 (ya : Int)) ∧ wr.drew.cell? ⟨g1, i * 3 + 2, none⟩ = some (.string XT) from ⟨k1, k3, k4, k5, k6⟩)
            clear k1 k2 k3 k4 k5 k6
            go_upto_region 16 with fail
            refine wp_region_held_drew (S := fun V => V.cell? ⟨g2, i * 3, none⟩ = some (.int .i64 (xk : Int)) ∧ V.cell? ⟨g2, i * 3 + 2, none⟩ = some (.string XT) ∧ V.cell? ⟨g1, i * 3, none⟩ = some (.int .i64 (xk : Int)) ∧ V.cell? ⟨g1, i * 3 + 1, none⟩ = some (.int .i64 (ya : Int)) ∧ V.cell? ⟨g1, i * 3 + 2, none⟩ = some (.string XT)) (by kernel_rfl) HC0.out (fun hHeld => ?_)
            refine wpAnyH_take (i := 0) (oi := { dst := some 119, op := Op.move (Operand.tmp 13), type := 22, pos := "law.go:107", after := #[], guard := none }) (v := .slice (some ⟨g2, 0, none⟩) M.length c2) rfl (by kernel_rfl) (by kernel_rfl) (by kernel_rfl) (fun _ _ _ h => h) (Or.inl ⟨by rfl, fun V hV => by (dsimp only at hV; go_simp)⟩) hHeld ?_
            try simp only [Act.put, List.setIfInBounds_toArray, List.set_cons_zero, List.set_cons_succ]
            refine wpAnyH_take (i := 1) (oi := { dst := some 120, op := Op.move (Operand.tmp 16), type := 3, pos := "law.go:107", after := #[], guard := none }) (v := .int .i64 (i : Int)) rfl (by kernel_rfl) (by kernel_rfl) (by kernel_rfl) (fun _ _ _ h => h) (Or.inl ⟨by rfl, fun V hV => by (dsimp only at hV; go_simp)⟩) hHeld ?_
            try simp only [Act.put, List.setIfInBounds_toArray, List.set_cons_zero, List.set_cons_succ]
            refine wpAnyH_take (i := 2) (oi := { dst := some 121, op := Op.indexAddr 22 (Operand.tmp 119) (Operand.tmp 120), type := 0, pos := "law.go:107", after := #[{ on := 0, ground := Ground.data }, { on := 1, ground := Ground.data }], guard := none }) (v := .pointer (some ⟨g2, i * 3, none⟩)) rfl (by kernel_rfl) (by kernel_rfl) (by kernel_rfl) (fun _ _ _ h => h) (Or.inl ⟨by rfl, fun V hV => by (dsimp only at hV; go_simp)⟩) hHeld ?_
            try simp only [Act.put, List.setIfInBounds_toArray, List.set_cons_zero, List.set_cons_succ]
            refine wpAnyH_take (i := 3) (oi := { dst := some 122, op := Op.fieldAddr 32 (Operand.tmp 121) 0, type := 0, pos := "law.go:107", after := #[{ on := 2, ground := Ground.data }], guard := none }) (v := .pointer (some ⟨g2, i * 3, none⟩)) rfl (by kernel_rfl) (by kernel_rfl) (by kernel_rfl) (fun _ _ _ h => h) (Or.inl ⟨by rfl, fun V hV => by (dsimp only at hV; go_simp)⟩) hHeld ?_
            try simp only [Act.put, List.setIfInBounds_toArray, List.set_cons_zero, List.set_cons_succ]
            refine wpAnyH_take (i := 4) (oi := { dst := some 123, op := Op.load 30 (Operand.tmp 122), type := 30, pos := "law.go:107", after := #[{ on := 3, ground := Ground.data }], guard := none }) (v := .int .i64 (xk : Int)) rfl (by kernel_rfl) (by kernel_rfl) (by kernel_rfl) (fun _ _ _ h => h) (Or.inl ⟨by rfl, fun V hV => by (dsimp only at hV; go_simp)⟩) hHeld ?_
            try simp only [Act.put, List.setIfInBounds_toArray, List.set_cons_zero, List.set_cons_succ]
            refine wpAnyH_take (i := 5) (oi := { dst := some 124, op := Op.move (Operand.tmp 5), type := 22, pos := "law.go:107", after := #[], guard := none }) (v := .slice (some ⟨g1, 0, none⟩) T.length c1) rfl (by kernel_rfl) (by kernel_rfl) (by kernel_rfl) (fun _ _ _ h => h) (Or.inl ⟨by rfl, fun V hV => by (dsimp only at hV; go_simp)⟩) hHeld ?_
            try simp only [Act.put, List.setIfInBounds_toArray, List.set_cons_zero, List.set_cons_succ]
            refine wpAnyH_take (i := 6) (oi := { dst := some 125, op := Op.move (Operand.tmp 16), type := 3, pos := "law.go:107", after := #[], guard := none }) (v := .int .i64 (i : Int)) rfl (by kernel_rfl) (by kernel_rfl) (by kernel_rfl) (fun _ _ _ h => h) (Or.inl ⟨by rfl, fun V hV => by (dsimp only at hV; go_simp)⟩) hHeld ?_
            try simp only [Act.put, List.setIfInBounds_toArray, List.set_cons_zero, List.set_cons_succ]
            refine wpAnyH_take (i := 7) (oi := { dst := some 126, op := Op.indexAddr 22 (Operand.tmp 124) (Operand.tmp 125), type := 0, pos := "law.go:107", after := #[{ on := 5, ground := Ground.data }, { on := 6, ground := Ground.data }], guard := none }) (v := .pointer (some ⟨g1, i * 3, none⟩)) rfl (by kernel_rfl) (by kernel_rfl) (by kernel_rfl) (fun _ _ _ h => h) (Or.inl ⟨by rfl, fun V hV => by (dsimp only at hV; go_simp)⟩) hHeld ?_
            try simp only [Act.put, List.setIfInBounds_toArray, List.set_cons_zero, List.set_cons_succ]
            refine wpAnyH_take (i := 8) (oi := { dst := some 127, op := Op.fieldAddr 32 (Operand.tmp 126) 0, type := 0, pos := "law.go:107", after := #[{ on := 7, ground := Ground.data }], guard := none }) (v := .pointer (some ⟨g1, i * 3, none⟩)) rfl (by kernel_rfl) (by kernel_rfl) (by kernel_rfl) (fun _ _ _ h => h) (Or.inl ⟨by rfl, fun V hV => by (dsimp only at hV; go_simp)⟩) hHeld ?_
            try simp only [Act.put, List.setIfInBounds_toArray, List.set_cons_zero, List.set_cons_succ]
            refine wpAnyH_take (i := 9) (oi := { dst := some 128, op := Op.load 30 (Operand.tmp 127), type := 30, pos := "law.go:107", after := #[{ on := 8, ground := Ground.data }], guard := none }) (v := .int .i64 (xk : Int)) rfl (by kernel_rfl) (by kernel_rfl) (by kernel_rfl) (fun _ _ _ h => h) (Or.inl ⟨by rfl, fun V hV => by (dsimp only at hV; go_simp)⟩) hHeld ?_
            try simp only [Act.put, List.setIfInBounds_toArray, List.set_cons_zero, List.set_cons_succ]
            refine wpAnyH_take (i := 10) (oi := { dst := some 129, op := Op.binOp BinOp.neq 30 (Operand.tmp 123) (Operand.tmp 128) 30, type := 4, pos := "law.go:107", after := #[{ on := 4, ground := Ground.data }, { on := 9, ground := Ground.data }], guard := none }) (v := .bool false) rfl (by kernel_rfl) (by kernel_rfl) (by kernel_rfl) (fun _ _ _ h => h) (Or.inl ⟨by rfl, fun V hV => by (dsimp only at hV; go_simp)⟩) hHeld ?_
            try simp only [Act.put, List.setIfInBounds_toArray, List.set_cons_zero, List.set_cons_succ]
            refine wpAnyH_take (i := 11) (oi := { dst := some 130, op := Op.move (Operand.tmp 129), type := 4, pos := "law.go:107", after := #[{ on := 10, ground := Ground.data }], guard := none }) (v := .bool false) rfl (by kernel_rfl) (by kernel_rfl) (by kernel_rfl) (fun _ _ _ h => h) (Or.inl ⟨by rfl, fun V hV => by (dsimp only at hV; go_simp)⟩) hHeld ?_
            try simp only [Act.put, List.setIfInBounds_toArray, List.set_cons_zero, List.set_cons_succ]
            refine wpAnyH_take (i := 12) (oi := { dst := some 131, op := Op.move (Operand.tmp 13), type := 22, pos := "law.go:107", after := #[{ on := 11, ground := Ground.guard }], guard := some (11, false) }) (v := .slice (some ⟨g2, 0, none⟩) M.length c2) rfl (by kernel_rfl) (by kernel_rfl) (by kernel_rfl) (fun _ _ _ h => h) (Or.inl ⟨by rfl, fun V hV => by (dsimp only at hV; go_simp)⟩) hHeld ?_
            try simp only [Act.put, List.setIfInBounds_toArray, List.set_cons_zero, List.set_cons_succ]
            refine wpAnyH_take (i := 13) (oi := { dst := some 132, op := Op.move (Operand.tmp 16), type := 3, pos := "law.go:107", after := #[{ on := 11, ground := Ground.guard }], guard := some (11, false) }) (v := .int .i64 (i : Int)) rfl (by kernel_rfl) (by kernel_rfl) (by kernel_rfl) (fun _ _ _ h => h) (Or.inl ⟨by rfl, fun V hV => by (dsimp only at hV; go_simp)⟩) hHeld ?_
            try simp only [Act.put, List.setIfInBounds_toArray, List.set_cons_zero, List.set_cons_succ]
            refine wpAnyH_take (i := 14) (oi := { dst := some 133, op := Op.indexAddr 22 (Operand.tmp 131) (Operand.tmp 132), type := 0, pos := "law.go:107", after := #[{ on := 12, ground := Ground.data }, { on := 13, ground := Ground.data }, { on := 11, ground := Ground.guard }], guard := some (11, false) }) (v := .pointer (some ⟨g2, i * 3, none⟩)) rfl (by kernel_rfl) (by kernel_rfl) (by kernel_rfl) (fun _ _ _ h => h) (Or.inl ⟨by rfl, fun V hV => by (dsimp only at hV; go_simp)⟩) hHeld ?_
            try simp only [Act.put, List.setIfInBounds_toArray, List.set_cons_zero, List.set_cons_succ]
            refine wpAnyH_take (i := 15) (oi := { dst := some 134, op := Op.fieldAddr 32 (Operand.tmp 133) 2, type := 0, pos := "law.go:107", after := #[{ on := 14, ground := Ground.data }, { on := 11, ground := Ground.guard }], guard := some (11, false) }) (v := .pointer (some ⟨g2, i * 3 + 2, none⟩)) rfl (by kernel_rfl) (by kernel_rfl) (by kernel_rfl) (fun _ _ _ h => h) (Or.inl ⟨by rfl, fun V hV => by (dsimp only at hV; go_simp)⟩) hHeld ?_
            try simp only [Act.put, List.setIfInBounds_toArray, List.set_cons_zero, List.set_cons_succ]
            refine wpAnyH_take (i := 16) (oi := { dst := some 135, op := Op.load 9 (Operand.tmp 134), type := 9, pos := "law.go:107", after := #[{ on := 15, ground := Ground.data }, { on := 11, ground := Ground.guard }], guard := some (11, false) }) (v := .string XT) rfl (by kernel_rfl) (by kernel_rfl) (by kernel_rfl) (fun _ _ _ h => h) (Or.inl ⟨by rfl, fun V hV => by (dsimp only at hV; go_simp)⟩) hHeld ?_
            try simp only [Act.put, List.setIfInBounds_toArray, List.set_cons_zero, List.set_cons_succ]
            refine wpAnyH_take (i := 17) (oi := { dst := some 136, op := Op.move (Operand.tmp 5), type := 22, pos := "law.go:107", after := #[{ on := 11, ground := Ground.guard }], guard := some (11, false) }) (v := .slice (some ⟨g1, 0, none⟩) T.length c1) rfl (by kernel_rfl) (by kernel_rfl) (by kernel_rfl) (fun _ _ _ h => h) (Or.inl ⟨by rfl, fun V hV => by (dsimp only at hV; go_simp)⟩) hHeld ?_
            try simp only [Act.put, List.setIfInBounds_toArray, List.set_cons_zero, List.set_cons_succ]
            refine wpAnyH_take (i := 18) (oi := { dst := some 137, op := Op.move (Operand.tmp 16), type := 3, pos := "law.go:107", after := #[{ on := 11, ground := Ground.guard }], guard := some (11, false) }) (v := .int .i64 (i : Int)) rfl (by kernel_rfl) (by kernel_rfl) (by kernel_rfl) (fun _ _ _ h => h) (Or.inl ⟨by rfl, fun V hV => by (dsimp only at hV; go_simp)⟩) hHeld ?_
            try simp only [Act.put, List.setIfInBounds_toArray, List.set_cons_zero, List.set_cons_succ]
            refine wpAnyH_take (i := 19) (oi := { dst := some 138, op := Op.indexAddr 22 (Operand.tmp 136) (Operand.tmp 137), type := 0, pos := "law.go:107", after := #[{ on := 17, ground := Ground.data }, { on := 18, ground := Ground.data }, { on := 11, ground := Ground.guard }], guard := some (11, false) }) (v := .pointer (some ⟨g1, i * 3, none⟩)) rfl (by kernel_rfl) (by kernel_rfl) (by kernel_rfl) (fun _ _ _ h => h) (Or.inl ⟨by rfl, fun V hV => by (dsimp only at hV; go_simp)⟩) hHeld ?_
            try simp only [Act.put, List.setIfInBounds_toArray, List.set_cons_zero, List.set_cons_succ]
            refine wpAnyH_take (i := 20) (oi := { dst := some 139, op := Op.fieldAddr 32 (Operand.tmp 138) 2, type := 0, pos := "law.go:107", after := #[{ on := 19, ground := Ground.data }, { on := 11, ground := Ground.guard }], guard := some (11, false) }) (v := .pointer (some ⟨g1, i * 3 + 2, none⟩)) rfl (by kernel_rfl) (by kernel_rfl) (by kernel_rfl) (fun _ _ _ h => h) (Or.inl ⟨by rfl, fun V hV => by (dsimp only at hV; go_simp)⟩) hHeld ?_
            try simp only [Act.put, List.setIfInBounds_toArray, List.set_cons_zero, List.set_cons_succ]
            refine wpAnyH_take (i := 21) (oi := { dst := some 140, op := Op.load 9 (Operand.tmp 139), type := 9, pos := "law.go:107", after := #[{ on := 20, ground := Ground.data }, { on := 11, ground := Ground.guard }], guard := some (11, false) }) (v := .string XT) rfl (by kernel_rfl) (by kernel_rfl) (by kernel_rfl) (fun _ _ _ h => h) (Or.inl ⟨by rfl, fun V hV => by (dsimp only at hV; go_simp)⟩) hHeld ?_
            try simp only [Act.put, List.setIfInBounds_toArray, List.set_cons_zero, List.set_cons_succ]
            refine wpAnyH_take (i := 22) (oi := { dst := some 141, op := Op.binOp BinOp.neq 9 (Operand.tmp 135) (Operand.tmp 140) 9, type := 4, pos := "law.go:107", after := #[{ on := 16, ground := Ground.data }, { on := 21, ground := Ground.data }, { on := 11, ground := Ground.guard }], guard := some (11, false) }) (v := .bool false) rfl (by kernel_rfl) (by kernel_rfl) (by kernel_rfl) (fun _ _ _ h => h) (Or.inl ⟨by rfl, fun V hV => by (dsimp only at hV; go_simp)⟩) hHeld ?_
            try simp only [Act.put, List.setIfInBounds_toArray, List.set_cons_zero, List.set_cons_succ]
            refine wpAnyH_take (i := 23) (oi := { dst := some 142, op := Op.pick (Operand.tmp 130) (Operand.const (Value.bool true)) (Operand.tmp 141), type := 4, pos := "law.go:107", after := #[{ on := 11, ground := Ground.data }, { on := 22, ground := Ground.data }], guard := none }) (v := .bool false) rfl (by kernel_rfl) (by kernel_rfl) (by kernel_rfl) (fun _ _ _ h => h) (Or.inl ⟨by rfl, fun V hV => by (dsimp only at hV; go_simp)⟩) hHeld ?_
            try simp only [Act.put, List.setIfInBounds_toArray, List.set_cons_zero, List.set_cons_succ]
            refine wpAnyH_take (i := 24) (oi := { dst := some 143, op := Op.move (Operand.tmp 142), type := 4, pos := "law.go:107", after := #[{ on := 23, ground := Ground.data }, { on := 11, ground := Ground.chain }], guard := none }) (v := .bool false) rfl (by kernel_rfl) (by kernel_rfl) (by kernel_rfl) (fun _ _ _ h => h) (Or.inl ⟨by rfl, fun V hV => by (dsimp only at hV; go_simp)⟩) hHeld ?_
            try simp only [Act.put, List.setIfInBounds_toArray, List.set_cons_zero, List.set_cons_succ]
            refine wpAnyH_take (i := 25) (oi := { dst := some 144, op := Op.move (Operand.tmp 5), type := 22, pos := "law.go:107", after := #[{ on := 24, ground := Ground.guard }], guard := some (24, false) }) (v := .slice (some ⟨g1, 0, none⟩) T.length c1) rfl (by kernel_rfl) (by kernel_rfl) (by kernel_rfl) (fun _ _ _ h => h) (Or.inl ⟨by rfl, fun V hV => by (dsimp only at hV; go_simp)⟩) hHeld ?_
            try simp only [Act.put, List.setIfInBounds_toArray, List.set_cons_zero, List.set_cons_succ]
            refine wpAnyH_take (i := 26) (oi := { dst := some 145, op := Op.move (Operand.tmp 16), type := 3, pos := "law.go:107", after := #[{ on := 24, ground := Ground.guard }], guard := some (24, false) }) (v := .int .i64 (i : Int)) rfl (by kernel_rfl) (by kernel_rfl) (by kernel_rfl) (fun _ _ _ h => h) (Or.inl ⟨by rfl, fun V hV => by (dsimp only at hV; go_simp)⟩) hHeld ?_
            try simp only [Act.put, List.setIfInBounds_toArray, List.set_cons_zero, List.set_cons_succ]
            refine wpAnyH_take (i := 27) (oi := { dst := some 146, op := Op.indexAddr 22 (Operand.tmp 144) (Operand.tmp 145), type := 0, pos := "law.go:107", after := #[{ on := 25, ground := Ground.data }, { on := 26, ground := Ground.data }, { on := 24, ground := Ground.guard }], guard := some (24, false) }) (v := .pointer (some ⟨g1, i * 3, none⟩)) rfl (by kernel_rfl) (by kernel_rfl) (by kernel_rfl) (fun _ _ _ h => h) (Or.inl ⟨by rfl, fun V hV => by (dsimp only at hV; go_simp)⟩) hHeld ?_
            try simp only [Act.put, List.setIfInBounds_toArray, List.set_cons_zero, List.set_cons_succ]
            refine wpAnyH_take (i := 28) (oi := { dst := some 147, op := Op.fieldAddr 32 (Operand.tmp 146) 1, type := 0, pos := "law.go:107", after := #[{ on := 27, ground := Ground.data }, { on := 24, ground := Ground.guard }], guard := some (24, false) }) (v := .pointer (some ⟨g1, i * 3 + 1, none⟩)) rfl (by kernel_rfl) (by kernel_rfl) (by kernel_rfl) (fun _ _ _ h => h) (Or.inl ⟨by rfl, fun V hV => by (dsimp only at hV; go_simp)⟩) hHeld ?_
            try simp only [Act.put, List.setIfInBounds_toArray, List.set_cons_zero, List.set_cons_succ]
            refine wpAnyH_take (i := 29) (oi := { dst := some 148, op := Op.load 3 (Operand.tmp 147), type := 3, pos := "law.go:107", after := #[{ on := 28, ground := Ground.data }, { on := 24, ground := Ground.guard }], guard := some (24, false) }) (v := .int .i64 (ya : Int)) rfl (by kernel_rfl) (by kernel_rfl) (by kernel_rfl) (fun _ _ _ h => h) (Or.inl ⟨by rfl, fun V hV => by (dsimp only at hV; go_simp)⟩) hHeld ?_
            try simp only [Act.put, List.setIfInBounds_toArray, List.set_cons_zero, List.set_cons_succ]
            refine wpAnyH_take (i := 30) (oi := { dst := some 149, op := Op.binOp BinOp.lss 3 (Operand.tmp 148) (Operand.const (Value.int IntKind.i64 0)) 3, type := 4, pos := "law.go:107", after := #[{ on := 29, ground := Ground.data }, { on := 24, ground := Ground.guard }], guard := some (24, false) }) (v := .bool false) rfl (by kernel_rfl) (by kernel_rfl) (by kernel_rfl) (fun _ _ _ h => h) (Or.inl ⟨by rfl, fun V hV => by (dsimp only at hV; go_simp)⟩) hHeld ?_
            try simp only [Act.put, List.setIfInBounds_toArray, List.set_cons_zero, List.set_cons_succ]
            refine wpAnyH_take (i := 31) (oi := { dst := some 150, op := Op.pick (Operand.tmp 143) (Operand.const (Value.bool true)) (Operand.tmp 149), type := 4, pos := "law.go:107", after := #[{ on := 24, ground := Ground.data }, { on := 30, ground := Ground.data }], guard := none }) (v := .bool false) rfl (by kernel_rfl) (by kernel_rfl) (by kernel_rfl) (fun _ _ _ h => h) (Or.inl ⟨by rfl, fun V hV => by (dsimp only at hV; go_simp)⟩) hHeld ?_
            try simp only [Act.put, List.setIfInBounds_toArray, List.set_cons_zero, List.set_cons_succ]
            refine wpAnyH_take (i := 32) (oi := { dst := some 151, op := Op.move (Operand.tmp 150), type := 4, pos := "law.go:107", after := #[{ on := 31, ground := Ground.data }, { on := 24, ground := Ground.chain }], guard := none }) (v := .bool false) rfl (by kernel_rfl) (by kernel_rfl) (by kernel_rfl) (fun _ _ _ h => h) (Or.inl ⟨by rfl, fun V hV => by (dsimp only at hV; go_simp)⟩) hHeld ?_
            try simp only [Act.put, List.setIfInBounds_toArray, List.set_cons_zero, List.set_cons_succ]
            refine wpAnyH_take (i := 33) (oi := { dst := some 152, op := Op.move (Operand.tmp 5), type := 22, pos := "law.go:107", after := #[{ on := 32, ground := Ground.guard }], guard := some (32, false) }) (v := .slice (some ⟨g1, 0, none⟩) T.length c1) rfl (by kernel_rfl) (by kernel_rfl) (by kernel_rfl) (fun _ _ _ h => h) (Or.inl ⟨by rfl, fun V hV => by (dsimp only at hV; go_simp)⟩) hHeld ?_
            try simp only [Act.put, List.setIfInBounds_toArray, List.set_cons_zero, List.set_cons_succ]
            refine wpAnyH_take (i := 34) (oi := { dst := some 153, op := Op.move (Operand.tmp 16), type := 3, pos := "law.go:107", after := #[{ on := 32, ground := Ground.guard }], guard := some (32, false) }) (v := .int .i64 (i : Int)) rfl (by kernel_rfl) (by kernel_rfl) (by kernel_rfl) (fun _ _ _ h => h) (Or.inl ⟨by rfl, fun V hV => by (dsimp only at hV; go_simp)⟩) hHeld ?_
            try simp only [Act.put, List.setIfInBounds_toArray, List.set_cons_zero, List.set_cons_succ]
            refine wpAnyH_take (i := 35) (oi := { dst := some 154, op := Op.indexAddr 22 (Operand.tmp 152) (Operand.tmp 153), type := 0, pos := "law.go:107", after := #[{ on := 33, ground := Ground.data }, { on := 34, ground := Ground.data }, { on := 32, ground := Ground.guard }], guard := some (32, false) }) (v := .pointer (some ⟨g1, i * 3, none⟩)) rfl (by kernel_rfl) (by kernel_rfl) (by kernel_rfl) (fun _ _ _ h => h) (Or.inl ⟨by rfl, fun V hV => by (dsimp only at hV; go_simp)⟩) hHeld ?_
            try simp only [Act.put, List.setIfInBounds_toArray, List.set_cons_zero, List.set_cons_succ]
            refine wpAnyH_take (i := 36) (oi := { dst := some 155, op := Op.fieldAddr 32 (Operand.tmp 154) 1, type := 0, pos := "law.go:107", after := #[{ on := 35, ground := Ground.data }, { on := 32, ground := Ground.guard }], guard := some (32, false) }) (v := .pointer (some ⟨g1, i * 3 + 1, none⟩)) rfl (by kernel_rfl) (by kernel_rfl) (by kernel_rfl) (fun _ _ _ h => h) (Or.inl ⟨by rfl, fun V hV => by (dsimp only at hV; go_simp)⟩) hHeld ?_
            try simp only [Act.put, List.setIfInBounds_toArray, List.set_cons_zero, List.set_cons_succ]
            refine wpAnyH_take (i := 37) (oi := { dst := some 156, op := Op.load 3 (Operand.tmp 155), type := 3, pos := "law.go:107", after := #[{ on := 36, ground := Ground.data }, { on := 32, ground := Ground.guard }], guard := some (32, false) }) (v := .int .i64 (ya : Int)) rfl (by kernel_rfl) (by kernel_rfl) (by kernel_rfl) (fun _ _ _ h => h) (Or.inl ⟨by rfl, fun V hV => by (dsimp only at hV; go_simp)⟩) hHeld ?_
            try simp only [Act.put, List.setIfInBounds_toArray, List.set_cons_zero, List.set_cons_succ]
            refine wpAnyH_take (i := 38) (oi := { dst := some 157, op := Op.move (Operand.tmp 0), type := 9, pos := "law.go:107", after := #[{ on := 32, ground := Ground.guard }], guard := some (32, false) }) (v := .string s) rfl (by kernel_rfl) (by kernel_rfl) (by kernel_rfl) (fun _ _ _ h => h) (Or.inl ⟨by rfl, fun V hV => by (dsimp only at hV; go_simp)⟩) hHeld ?_
            try simp only [Act.put, List.setIfInBounds_toArray, List.set_cons_zero, List.set_cons_succ]
            refine wpAnyH_take (i := 39) (oi := { dst := some 158, op := Op.call { callee := Callee.builtin Builtin.len, args := #[Operand.tmp 157], argTypes := #[9] }, type := 3, pos := "law.go:107", after := #[{ on := 38, ground := Ground.data }, { on := 32, ground := Ground.guard }], guard := some (32, false) }) (v := .int .i64 (s.size : Int)) rfl (by kernel_rfl) (by kernel_rfl) (by kernel_rfl) (fun _ _ _ h => h) (Or.inl ⟨by rfl, fun V hV => by (dsimp only at hV; go_simp)⟩) hHeld ?_
            try simp only [Act.put, List.setIfInBounds_toArray, List.set_cons_zero, List.set_cons_succ]
            refine wpAnyH_take (i := 40) (oi := { dst := some 159, op := Op.binOp BinOp.geq 3 (Operand.tmp 156) (Operand.tmp 158) 3, type := 4, pos := "law.go:107", after := #[{ on := 37, ground := Ground.data }, { on := 39, ground := Ground.data }, { on := 32, ground := Ground.guard }], guard := some (32, false) }) (v := .bool false) rfl (by kernel_rfl) (by kernel_rfl) (by kernel_rfl) (fun _ _ _ h => h) (Or.inl ⟨by rfl, fun V hV => by (dsimp only at hV; go_simp)⟩) hHeld ?_
            try simp only [Act.put, List.setIfInBounds_toArray, List.set_cons_zero, List.set_cons_succ]
            refine wpAnyH_take (i := 41) (oi := { dst := some 160, op := Op.pick (Operand.tmp 151) (Operand.const (Value.bool true)) (Operand.tmp 159), type := 4, pos := "law.go:107", after := #[{ on := 32, ground := Ground.data }, { on := 40, ground := Ground.data }], guard := none }) (v := .bool false) rfl (by kernel_rfl) (by kernel_rfl) (by kernel_rfl) (fun _ _ _ h => h) (Or.inl ⟨by rfl, fun V hV => by (dsimp only at hV; go_simp)⟩) hHeld ?_
            try simp only [Act.put, List.setIfInBounds_toArray, List.set_cons_zero, List.set_cons_succ]
            refine wpAnyH_take (i := 42) (oi := { dst := some 161, op := Op.move (Operand.tmp 160), type := 4, pos := "law.go:107", after := #[{ on := 41, ground := Ground.data }, { on := 32, ground := Ground.chain }], guard := none }) (v := .bool false) rfl (by kernel_rfl) (by kernel_rfl) (by kernel_rfl) (fun _ _ _ h => h) (Or.inl ⟨by rfl, fun V hV => by (dsimp only at hV; go_simp)⟩) hHeld ?_
            try simp only [Act.put, List.setIfInBounds_toArray, List.set_cons_zero, List.set_cons_succ]
            refine wpAnyH_take (i := 43) (oi := { dst := some 162, op := Op.move (Operand.tmp 16), type := 3, pos := "law.go:107", after := #[{ on := 42, ground := Ground.guard }], guard := some (42, false) }) (v := .int .i64 (i : Int)) rfl (by kernel_rfl) (by kernel_rfl) (by kernel_rfl) (fun _ _ _ h => h) (Or.inl ⟨by rfl, fun V hV => by (dsimp only at hV; go_simp)⟩) hHeld ?_
            try simp only [Act.put, List.setIfInBounds_toArray, List.set_cons_zero, List.set_cons_succ]
            refine wpAnyH_take (i := 44) (oi := { dst := some 163, op := Op.binOp BinOp.gtr 3 (Operand.tmp 162) (Operand.const (Value.int IntKind.i64 0)) 3, type := 4, pos := "law.go:107", after := #[{ on := 43, ground := Ground.data }, { on := 42, ground := Ground.guard }], guard := some (42, false) }) (v := .bool false) rfl (by kernel_rfl) (by kernel_rfl) (by kernel_rfl) (fun _ _ _ h => h) (Or.inl ⟨by rfl, fun V hV => by (dsimp only at hV; go_simp <;> omega)⟩) hHeld ?_
            try simp only [Act.put, List.setIfInBounds_toArray, List.set_cons_zero, List.set_cons_succ]
            refine wpAnyH_take (i := 45) (oi := { dst := some 164, op := Op.move (Operand.tmp 163), type := 4, pos := "law.go:107", after := #[{ on := 44, ground := Ground.data }, { on := 42, ground := Ground.chain }, { on := 42, ground := Ground.guard }], guard := some (42, false) }) (v := .bool false) rfl (by kernel_rfl) (by kernel_rfl) (by kernel_rfl) (fun _ _ _ h => h) (Or.inl ⟨by rfl, fun V hV => by (dsimp only at hV; go_simp)⟩) hHeld ?_
            try simp only [Act.put, List.setIfInBounds_toArray, List.set_cons_zero, List.set_cons_succ]
            refine wpAnyH_take (i := 46) (oi := { dst := some 165, op := Op.move (Operand.tmp 5), type := 22, pos := "law.go:107", after := #[{ on := 45, ground := Ground.guard }], guard := some (45, true) }) (v := undef) rfl (by kernel_rfl) (by kernel_rfl) (by kernel_rfl) (fun _ _ _ h => h) (Or.inr ⟨by rfl, rfl⟩) hHeld ?_
            try simp only [Act.put, List.setIfInBounds_toArray, List.set_cons_zero, List.set_cons_succ]
            refine wpAnyH_take (i := 47) (oi := { dst := some 166, op := Op.move (Operand.tmp 16), type := 3, pos := "law.go:107", after := #[{ on := 45, ground := Ground.guard }], guard := some (45, true) }) (v := undef) rfl (by kernel_rfl) (by kernel_rfl) (by kernel_rfl) (fun _ _ _ h => h) (Or.inr ⟨by rfl, rfl⟩) hHeld ?_
            try simp only [Act.put, List.setIfInBounds_toArray, List.set_cons_zero, List.set_cons_succ]
            refine wpAnyH_take (i := 48) (oi := { dst := some 167, op := Op.binOp BinOp.sub 3 (Operand.tmp 166) (Operand.const (Value.int IntKind.i64 1)) 3, type := 3, pos := "law.go:107", after := #[{ on := 47, ground := Ground.data }, { on := 45, ground := Ground.guard }], guard := some (45, true) }) (v := undef) rfl (by kernel_rfl) (by kernel_rfl) (by kernel_rfl) (fun _ _ _ h => h) (Or.inr ⟨by rfl, rfl⟩) hHeld ?_
            try simp only [Act.put, List.setIfInBounds_toArray, List.set_cons_zero, List.set_cons_succ]
            refine wpAnyH_take (i := 49) (oi := { dst := some 168, op := Op.indexAddr 22 (Operand.tmp 165) (Operand.tmp 167), type := 0, pos := "law.go:107", after := #[{ on := 46, ground := Ground.data }, { on := 48, ground := Ground.data }, { on := 45, ground := Ground.guard }], guard := some (45, true) }) (v := undef) rfl (by kernel_rfl) (by kernel_rfl) (by kernel_rfl) (fun _ _ _ h => h) (Or.inr ⟨by rfl, rfl⟩) hHeld ?_
            try simp only [Act.put, List.setIfInBounds_toArray, List.set_cons_zero, List.set_cons_succ]
            refine wpAnyH_take (i := 50) (oi := { dst := some 169, op := Op.fieldAddr 32 (Operand.tmp 168) 1, type := 0, pos := "law.go:107", after := #[{ on := 49, ground := Ground.data }, { on := 45, ground := Ground.guard }], guard := some (45, true) }) (v := undef) rfl (by kernel_rfl) (by kernel_rfl) (by kernel_rfl) (fun _ _ _ h => h) (Or.inr ⟨by rfl, rfl⟩) hHeld ?_
            try simp only [Act.put, List.setIfInBounds_toArray, List.set_cons_zero, List.set_cons_succ]
            refine wpAnyH_take (i := 51) (oi := { dst := some 170, op := Op.load 3 (Operand.tmp 169), type := 3, pos := "law.go:107", after := #[{ on := 50, ground := Ground.data }, { on := 45, ground := Ground.guard }], guard := some (45, true) }) (v := undef) rfl (by kernel_rfl) (by kernel_rfl) (by kernel_rfl) (fun _ _ _ h => h) (Or.inr ⟨by rfl, rfl⟩) hHeld ?_
            try simp only [Act.put, List.setIfInBounds_toArray, List.set_cons_zero, List.set_cons_succ]
            refine wpAnyH_take (i := 52) (oi := { dst := some 171, op := Op.move (Operand.tmp 5), type := 22, pos := "law.go:107", after := #[{ on := 45, ground := Ground.guard }], guard := some (45, true) }) (v := undef) rfl (by kernel_rfl) (by kernel_rfl) (by kernel_rfl) (fun _ _ _ h => h) (Or.inr ⟨by rfl, rfl⟩) hHeld ?_
            try simp only [Act.put, List.setIfInBounds_toArray, List.set_cons_zero, List.set_cons_succ]
            refine wpAnyH_take (i := 53) (oi := { dst := some 172, op := Op.move (Operand.tmp 16), type := 3, pos := "law.go:107", after := #[{ on := 45, ground := Ground.guard }], guard := some (45, true) }) (v := undef) rfl (by kernel_rfl) (by kernel_rfl) (by kernel_rfl) (fun _ _ _ h => h) (Or.inr ⟨by rfl, rfl⟩) hHeld ?_
            try simp only [Act.put, List.setIfInBounds_toArray, List.set_cons_zero, List.set_cons_succ]
            refine wpAnyH_take (i := 54) (oi := { dst := some 173, op := Op.indexAddr 22 (Operand.tmp 171) (Operand.tmp 172), type := 0, pos := "law.go:107", after := #[{ on := 52, ground := Ground.data }, { on := 53, ground := Ground.data }, { on := 45, ground := Ground.guard }], guard := some (45, true) }) (v := undef) rfl (by kernel_rfl) (by kernel_rfl) (by kernel_rfl) (fun _ _ _ h => h) (Or.inr ⟨by rfl, rfl⟩) hHeld ?_
            try simp only [Act.put, List.setIfInBounds_toArray, List.set_cons_zero, List.set_cons_succ]
            refine wpAnyH_take (i := 55) (oi := { dst := some 174, op := Op.fieldAddr 32 (Operand.tmp 173) 1, type := 0, pos := "law.go:107", after := #[{ on := 54, ground := Ground.data }, { on := 45, ground := Ground.guard }], guard := some (45, true) }) (v := undef) rfl (by kernel_rfl) (by kernel_rfl) (by kernel_rfl) (fun _ _ _ h => h) (Or.inr ⟨by rfl, rfl⟩) hHeld ?_
            try simp only [Act.put, List.setIfInBounds_toArray, List.set_cons_zero, List.set_cons_succ]
            refine wpAnyH_take (i := 56) (oi := { dst := some 175, op := Op.load 3 (Operand.tmp 174), type := 3, pos := "law.go:107", after := #[{ on := 55, ground := Ground.data }, { on := 45, ground := Ground.guard }], guard := some (45, true) }) (v := undef) rfl (by kernel_rfl) (by kernel_rfl) (by kernel_rfl) (fun _ _ _ h => h) (Or.inr ⟨by rfl, rfl⟩) hHeld ?_
            try simp only [Act.put, List.setIfInBounds_toArray, List.set_cons_zero, List.set_cons_succ]
            refine wpAnyH_take (i := 57) (oi := { dst := some 176, op := Op.binOp BinOp.geq 3 (Operand.tmp 170) (Operand.tmp 175) 3, type := 4, pos := "law.go:107", after := #[{ on := 51, ground := Ground.data }, { on := 56, ground := Ground.data }, { on := 45, ground := Ground.guard }], guard := some (45, true) }) (v := undef) rfl (by kernel_rfl) (by kernel_rfl) (by kernel_rfl) (fun _ _ _ h => h) (Or.inr ⟨by rfl, rfl⟩) hHeld ?_
            try simp only [Act.put, List.setIfInBounds_toArray, List.set_cons_zero, List.set_cons_succ]
            refine wpAnyH_take (i := 58) (oi := { dst := some 177, op := Op.pick (Operand.tmp 164) (Operand.tmp 176) (Operand.const (Value.bool false)), type := 4, pos := "law.go:107", after := #[{ on := 45, ground := Ground.data }, { on := 57, ground := Ground.data }, { on := 42, ground := Ground.guard }], guard := some (42, false) }) (v := .bool false) rfl (by kernel_rfl) (by kernel_rfl) (by kernel_rfl) (fun _ _ _ h => h) (Or.inl ⟨by rfl, fun V hV => by (dsimp only at hV; go_simp)⟩) hHeld ?_
            try simp only [Act.put, List.setIfInBounds_toArray, List.set_cons_zero, List.set_cons_succ]
            refine wpAnyH_take (i := 59) (oi := { dst := some 178, op := Op.pick (Operand.tmp 161) (Operand.const (Value.bool true)) (Operand.tmp 177), type := 4, pos := "law.go:107", after := #[{ on := 42, ground := Ground.data }, { on := 58, ground := Ground.data }], guard := none }) (v := .bool false) rfl (by kernel_rfl) (by kernel_rfl) (by kernel_rfl) (fun _ _ _ h => h) (Or.inl ⟨by rfl, fun V hV => by (dsimp only at hV; go_simp)⟩) hHeld ?_
            try simp only [Act.put, List.setIfInBounds_toArray, List.set_cons_zero, List.set_cons_succ]
            refine wpAnyH_done (by kernel_rfl) ?_ _
            go_wp2
            go_roundw
            case rel => exact ⟨i + 1, by omega, rfl, below_trans HBr.out (below_drew _)⟩
            case measure => simp [intOf]; omega
          · have g0 : (0 : Int) < (i : Int) := by omega
            obtain ⟨m, hm⟩ : ∃ m, i = m + 1 := ⟨i - 1, by omega⟩
            obtain ⟨z, hz⟩ : ∃ z, T[m]? = some z := ⟨_, List.getElem?_eq_getElem (by have := HML.out; omega)⟩
            have hza := hat.2 m z hm hz
            have k7 := (r2 wr HBr.out m z hz).2.1
            obtain ⟨za, hza2⟩ : ∃ za, z.a = za := ⟨_, rfl⟩
            rw [hza2] at k7 hza
            have hwm : IntKind.i64.wrap ((i : Int) - 1) = (m : Int) := by rw [IntKind.wrap_i64]; omega
            have m3 : (0 : Int) ≤ (m : Int) := by omega
            have m4 : (m : Int) < (T.length : Int) := by omega
            have f5 : ¬ (ya : Int) ≤ (za : Int) := by omega
            have f6 : (za : Int) < (ya : Int) := by omega
            clear hi0 hat hx hy h1 h2 r1 r2 e1 e2 hXT hm hz hza hza2
            have HC0 := hide (show wr.drew.cell? ⟨g2, i * 3, none⟩ = some (.int .i64 (xk : Int)) ∧ wr.drew.cell? ⟨g2, i * 3 + 2, none⟩ = some (.string XT) ∧ wr.drew.cell? ⟨g1, i * 3, none⟩ = some (.int .i64 (xk : Int)) ∧ wr.drew.cell? ⟨g1, i * 3 + 1, none⟩ = some (.int .i64 (ya : Int)) ∧ wr.drew.cell? ⟨g1, i * 3 + 2, none⟩ = some (.string XT) ∧ wr.drew.cell? ⟨g1, m * 3 + 1, none⟩ = some (.int .i64 (za : Int)) from ⟨k1, k3, k4, k5, k6, k7⟩)
            clear k1 k2 k3 k4 k5 k6 k7
            go_upto_region 16 with fail
            refine wp_region_held_drew (S := fun V => V.cell? ⟨g2, i * 3, none⟩ = some (.int .i64 (xk : Int)) ∧ V.cell? ⟨g2, i * 3 + 2, none⟩ = some (.string XT) ∧ V.cell? ⟨g1, i * 3, none⟩ = some (.int .i64 (xk : Int)) ∧ V.cell? ⟨g1, i * 3 + 1, none⟩ = some (.int .i64 (ya : Int)) ∧ V.cell? ⟨g1, i * 3 + 2, none⟩ = some (.string XT) ∧ V.cell? ⟨g1, m * 3 + 1, none⟩ = some (.int .i64 (za : Int))) (by kernel_rfl) HC0.out (fun hHeld => ?_)
            refine wpAnyH_take (i := 0) (oi := { dst := some 119, op := Op.move (Operand.tmp 13), type := 22, pos := "law.go:107", after := #[], guard := none }) (v := .slice (some ⟨g2, 0, none⟩) M.length c2) rfl (by kernel_rfl) (by kernel_rfl) (by kernel_rfl) (fun _ _ _ h => h) (Or.inl ⟨by rfl, fun V hV => by (dsimp only at hV; go_simp)⟩) hHeld ?_
            try simp only [Act.put, List.setIfInBounds_toArray, List.set_cons_zero, List.set_cons_succ]
            refine wpAnyH_take (i := 1) (oi := { dst := some 120, op := Op.move (Operand.tmp 16), type := 3, pos := "law.go:107", after := #[], guard := none }) (v := .int .i64 (i : Int)) rfl (by kernel_rfl) (by kernel_rfl) (by kernel_rfl) (fun _ _ _ h => h) (Or.inl ⟨by rfl, fun V hV => by (dsimp only at hV; go_simp)⟩) hHeld ?_
            try simp only [Act.put, List.setIfInBounds_toArray, List.set_cons_zero, List.set_cons_succ]
            refine wpAnyH_take (i := 2) (oi := { dst := some 121, op := Op.indexAddr 22 (Operand.tmp 119) (Operand.tmp 120), type := 0, pos := "law.go:107", after := #[{ on := 0, ground := Ground.data }, { on := 1, ground := Ground.data }], guard := none }) (v := .pointer (some ⟨g2, i * 3, none⟩)) rfl (by kernel_rfl) (by kernel_rfl) (by kernel_rfl) (fun _ _ _ h => h) (Or.inl ⟨by rfl, fun V hV => by (dsimp only at hV; go_simp)⟩) hHeld ?_
            try simp only [Act.put, List.setIfInBounds_toArray, List.set_cons_zero, List.set_cons_succ]
            refine wpAnyH_take (i := 3) (oi := { dst := some 122, op := Op.fieldAddr 32 (Operand.tmp 121) 0, type := 0, pos := "law.go:107", after := #[{ on := 2, ground := Ground.data }], guard := none }) (v := .pointer (some ⟨g2, i * 3, none⟩)) rfl (by kernel_rfl) (by kernel_rfl) (by kernel_rfl) (fun _ _ _ h => h) (Or.inl ⟨by rfl, fun V hV => by (dsimp only at hV; go_simp)⟩) hHeld ?_
            try simp only [Act.put, List.setIfInBounds_toArray, List.set_cons_zero, List.set_cons_succ]
            refine wpAnyH_take (i := 4) (oi := { dst := some 123, op := Op.load 30 (Operand.tmp 122), type := 30, pos := "law.go:107", after := #[{ on := 3, ground := Ground.data }], guard := none }) (v := .int .i64 (xk : Int)) rfl (by kernel_rfl) (by kernel_rfl) (by kernel_rfl) (fun _ _ _ h => h) (Or.inl ⟨by rfl, fun V hV => by (dsimp only at hV; go_simp)⟩) hHeld ?_
            try simp only [Act.put, List.setIfInBounds_toArray, List.set_cons_zero, List.set_cons_succ]
            refine wpAnyH_take (i := 5) (oi := { dst := some 124, op := Op.move (Operand.tmp 5), type := 22, pos := "law.go:107", after := #[], guard := none }) (v := .slice (some ⟨g1, 0, none⟩) T.length c1) rfl (by kernel_rfl) (by kernel_rfl) (by kernel_rfl) (fun _ _ _ h => h) (Or.inl ⟨by rfl, fun V hV => by (dsimp only at hV; go_simp)⟩) hHeld ?_
            try simp only [Act.put, List.setIfInBounds_toArray, List.set_cons_zero, List.set_cons_succ]
            refine wpAnyH_take (i := 6) (oi := { dst := some 125, op := Op.move (Operand.tmp 16), type := 3, pos := "law.go:107", after := #[], guard := none }) (v := .int .i64 (i : Int)) rfl (by kernel_rfl) (by kernel_rfl) (by kernel_rfl) (fun _ _ _ h => h) (Or.inl ⟨by rfl, fun V hV => by (dsimp only at hV; go_simp)⟩) hHeld ?_
            try simp only [Act.put, List.setIfInBounds_toArray, List.set_cons_zero, List.set_cons_succ]
            refine wpAnyH_take (i := 7) (oi := { dst := some 126, op := Op.indexAddr 22 (Operand.tmp 124) (Operand.tmp 125), type := 0, pos := "law.go:107", after := #[{ on := 5, ground := Ground.data }, { on := 6, ground := Ground.data }], guard := none }) (v := .pointer (some ⟨g1, i * 3, none⟩)) rfl (by kernel_rfl) (by kernel_rfl) (by kernel_rfl) (fun _ _ _ h => h) (Or.inl ⟨by rfl, fun V hV => by (dsimp only at hV; go_simp)⟩) hHeld ?_
            try simp only [Act.put, List.setIfInBounds_toArray, List.set_cons_zero, List.set_cons_succ]
            refine wpAnyH_take (i := 8) (oi := { dst := some 127, op := Op.fieldAddr 32 (Operand.tmp 126) 0, type := 0, pos := "law.go:107", after := #[{ on := 7, ground := Ground.data }], guard := none }) (v := .pointer (some ⟨g1, i * 3, none⟩)) rfl (by kernel_rfl) (by kernel_rfl) (by kernel_rfl) (fun _ _ _ h => h) (Or.inl ⟨by rfl, fun V hV => by (dsimp only at hV; go_simp)⟩) hHeld ?_
            try simp only [Act.put, List.setIfInBounds_toArray, List.set_cons_zero, List.set_cons_succ]
            refine wpAnyH_take (i := 9) (oi := { dst := some 128, op := Op.load 30 (Operand.tmp 127), type := 30, pos := "law.go:107", after := #[{ on := 8, ground := Ground.data }], guard := none }) (v := .int .i64 (xk : Int)) rfl (by kernel_rfl) (by kernel_rfl) (by kernel_rfl) (fun _ _ _ h => h) (Or.inl ⟨by rfl, fun V hV => by (dsimp only at hV; go_simp)⟩) hHeld ?_
            try simp only [Act.put, List.setIfInBounds_toArray, List.set_cons_zero, List.set_cons_succ]
            refine wpAnyH_take (i := 10) (oi := { dst := some 129, op := Op.binOp BinOp.neq 30 (Operand.tmp 123) (Operand.tmp 128) 30, type := 4, pos := "law.go:107", after := #[{ on := 4, ground := Ground.data }, { on := 9, ground := Ground.data }], guard := none }) (v := .bool false) rfl (by kernel_rfl) (by kernel_rfl) (by kernel_rfl) (fun _ _ _ h => h) (Or.inl ⟨by rfl, fun V hV => by (dsimp only at hV; go_simp)⟩) hHeld ?_
            try simp only [Act.put, List.setIfInBounds_toArray, List.set_cons_zero, List.set_cons_succ]
            refine wpAnyH_take (i := 11) (oi := { dst := some 130, op := Op.move (Operand.tmp 129), type := 4, pos := "law.go:107", after := #[{ on := 10, ground := Ground.data }], guard := none }) (v := .bool false) rfl (by kernel_rfl) (by kernel_rfl) (by kernel_rfl) (fun _ _ _ h => h) (Or.inl ⟨by rfl, fun V hV => by (dsimp only at hV; go_simp)⟩) hHeld ?_
            try simp only [Act.put, List.setIfInBounds_toArray, List.set_cons_zero, List.set_cons_succ]
            refine wpAnyH_take (i := 12) (oi := { dst := some 131, op := Op.move (Operand.tmp 13), type := 22, pos := "law.go:107", after := #[{ on := 11, ground := Ground.guard }], guard := some (11, false) }) (v := .slice (some ⟨g2, 0, none⟩) M.length c2) rfl (by kernel_rfl) (by kernel_rfl) (by kernel_rfl) (fun _ _ _ h => h) (Or.inl ⟨by rfl, fun V hV => by (dsimp only at hV; go_simp)⟩) hHeld ?_
            try simp only [Act.put, List.setIfInBounds_toArray, List.set_cons_zero, List.set_cons_succ]
            refine wpAnyH_take (i := 13) (oi := { dst := some 132, op := Op.move (Operand.tmp 16), type := 3, pos := "law.go:107", after := #[{ on := 11, ground := Ground.guard }], guard := some (11, false) }) (v := .int .i64 (i : Int)) rfl (by kernel_rfl) (by kernel_rfl) (by kernel_rfl) (fun _ _ _ h => h) (Or.inl ⟨by rfl, fun V hV => by (dsimp only at hV; go_simp)⟩) hHeld ?_
            try simp only [Act.put, List.setIfInBounds_toArray, List.set_cons_zero, List.set_cons_succ]
            refine wpAnyH_take (i := 14) (oi := { dst := some 133, op := Op.indexAddr 22 (Operand.tmp 131) (Operand.tmp 132), type := 0, pos := "law.go:107", after := #[{ on := 12, ground := Ground.data }, { on := 13, ground := Ground.data }, { on := 11, ground := Ground.guard }], guard := some (11, false) }) (v := .pointer (some ⟨g2, i * 3, none⟩)) rfl (by kernel_rfl) (by kernel_rfl) (by kernel_rfl) (fun _ _ _ h => h) (Or.inl ⟨by rfl, fun V hV => by (dsimp only at hV; go_simp)⟩) hHeld ?_
            try simp only [Act.put, List.setIfInBounds_toArray, List.set_cons_zero, List.set_cons_succ]
            refine wpAnyH_take (i := 15) (oi := { dst := some 134, op := Op.fieldAddr 32 (Operand.tmp 133) 2, type := 0, pos := "law.go:107", after := #[{ on := 14, ground := Ground.data }, { on := 11, ground := Ground.guard }], guard := some (11, false) }) (v := .pointer (some ⟨g2, i * 3 + 2, none⟩)) rfl (by kernel_rfl) (by kernel_rfl) (by kernel_rfl) (fun _ _ _ h => h) (Or.inl ⟨by rfl, fun V hV => by (dsimp only at hV; go_simp)⟩) hHeld ?_
            try simp only [Act.put, List.setIfInBounds_toArray, List.set_cons_zero, List.set_cons_succ]
            refine wpAnyH_take (i := 16) (oi := { dst := some 135, op := Op.load 9 (Operand.tmp 134), type := 9, pos := "law.go:107", after := #[{ on := 15, ground := Ground.data }, { on := 11, ground := Ground.guard }], guard := some (11, false) }) (v := .string XT) rfl (by kernel_rfl) (by kernel_rfl) (by kernel_rfl) (fun _ _ _ h => h) (Or.inl ⟨by rfl, fun V hV => by (dsimp only at hV; go_simp)⟩) hHeld ?_
            try simp only [Act.put, List.setIfInBounds_toArray, List.set_cons_zero, List.set_cons_succ]
            refine wpAnyH_take (i := 17) (oi := { dst := some 136, op := Op.move (Operand.tmp 5), type := 22, pos := "law.go:107", after := #[{ on := 11, ground := Ground.guard }], guard := some (11, false) }) (v := .slice (some ⟨g1, 0, none⟩) T.length c1) rfl (by kernel_rfl) (by kernel_rfl) (by kernel_rfl) (fun _ _ _ h => h) (Or.inl ⟨by rfl, fun V hV => by (dsimp only at hV; go_simp)⟩) hHeld ?_
            try simp only [Act.put, List.setIfInBounds_toArray, List.set_cons_zero, List.set_cons_succ]
            refine wpAnyH_take (i := 18) (oi := { dst := some 137, op := Op.move (Operand.tmp 16), type := 3, pos := "law.go:107", after := #[{ on := 11, ground := Ground.guard }], guard := some (11, false) }) (v := .int .i64 (i : Int)) rfl (by kernel_rfl) (by kernel_rfl) (by kernel_rfl) (fun _ _ _ h => h) (Or.inl ⟨by rfl, fun V hV => by (dsimp only at hV; go_simp)⟩) hHeld ?_
            try simp only [Act.put, List.setIfInBounds_toArray, List.set_cons_zero, List.set_cons_succ]
            refine wpAnyH_take (i := 19) (oi := { dst := some 138, op := Op.indexAddr 22 (Operand.tmp 136) (Operand.tmp 137), type := 0, pos := "law.go:107", after := #[{ on := 17, ground := Ground.data }, { on := 18, ground := Ground.data }, { on := 11, ground := Ground.guard }], guard := some (11, false) }) (v := .pointer (some ⟨g1, i * 3, none⟩)) rfl (by kernel_rfl) (by kernel_rfl) (by kernel_rfl) (fun _ _ _ h => h) (Or.inl ⟨by rfl, fun V hV => by (dsimp only at hV; go_simp)⟩) hHeld ?_
            try simp only [Act.put, List.setIfInBounds_toArray, List.set_cons_zero, List.set_cons_succ]
            refine wpAnyH_take (i := 20) (oi := { dst := some 139, op := Op.fieldAddr 32 (Operand.tmp 138) 2, type := 0, pos := "law.go:107", after := #[{ on := 19, ground := Ground.data }, { on := 11, ground := Ground.guard }], guard := some (11, false) }) (v := .pointer (some ⟨g1, i * 3 + 2, none⟩)) rfl (by kernel_rfl) (by kernel_rfl) (by kernel_rfl) (fun _ _ _ h => h) (Or.inl ⟨by rfl, fun V hV => by (dsimp only at hV; go_simp)⟩) hHeld ?_
            try simp only [Act.put, List.setIfInBounds_toArray, List.set_cons_zero, List.set_cons_succ]
            refine wpAnyH_take (i := 21) (oi := { dst := some 140, op := Op.load 9 (Operand.tmp 139), type := 9, pos := "law.go:107", after := #[{ on := 20, ground := Ground.data }, { on := 11, ground := Ground.guard }], guard := some (11, false) }) (v := .string XT) rfl (by kernel_rfl) (by kernel_rfl) (by kernel_rfl) (fun _ _ _ h => h) (Or.inl ⟨by rfl, fun V hV => by (dsimp only at hV; go_simp)⟩) hHeld ?_
            try simp only [Act.put, List.setIfInBounds_toArray, List.set_cons_zero, List.set_cons_succ]
            refine wpAnyH_take (i := 22) (oi := { dst := some 141, op := Op.binOp BinOp.neq 9 (Operand.tmp 135) (Operand.tmp 140) 9, type := 4, pos := "law.go:107", after := #[{ on := 16, ground := Ground.data }, { on := 21, ground := Ground.data }, { on := 11, ground := Ground.guard }], guard := some (11, false) }) (v := .bool false) rfl (by kernel_rfl) (by kernel_rfl) (by kernel_rfl) (fun _ _ _ h => h) (Or.inl ⟨by rfl, fun V hV => by (dsimp only at hV; go_simp)⟩) hHeld ?_
            try simp only [Act.put, List.setIfInBounds_toArray, List.set_cons_zero, List.set_cons_succ]
            refine wpAnyH_take (i := 23) (oi := { dst := some 142, op := Op.pick (Operand.tmp 130) (Operand.const (Value.bool true)) (Operand.tmp 141), type := 4, pos := "law.go:107", after := #[{ on := 11, ground := Ground.data }, { on := 22, ground := Ground.data }], guard := none }) (v := .bool false) rfl (by kernel_rfl) (by kernel_rfl) (by kernel_rfl) (fun _ _ _ h => h) (Or.inl ⟨by rfl, fun V hV => by (dsimp only at hV; go_simp)⟩) hHeld ?_
            try simp only [Act.put, List.setIfInBounds_toArray, List.set_cons_zero, List.set_cons_succ]
            refine wpAnyH_take (i := 24) (oi := { dst := some 143, op := Op.move (Operand.tmp 142), type := 4, pos := "law.go:107", after := #[{ on := 23, ground := Ground.data }, { on := 11, ground := Ground.chain }], guard := none }) (v := .bool false) rfl (by kernel_rfl) (by kernel_rfl) (by kernel_rfl) (fun _ _ _ h => h) (Or.inl ⟨by rfl, fun V hV => by (dsimp only at hV; go_simp)⟩) hHeld ?_
            try simp only [Act.put, List.setIfInBounds_toArray, List.set_cons_zero, List.set_cons_succ]
            refine wpAnyH_take (i := 25) (oi := { dst := some 144, op := Op.move (Operand.tmp 5), type := 22, pos := "law.go:107", after := #[{ on := 24, ground := Ground.guard }], guard := some (24, false) }) (v := .slice (some ⟨g1, 0, none⟩) T.length c1) rfl (by kernel_rfl) (by kernel_rfl) (by kernel_rfl) (fun _ _ _ h => h) (Or.inl ⟨by rfl, fun V hV => by (dsimp only at hV; go_simp)⟩) hHeld ?_
            try simp only [Act.put, List.setIfInBounds_toArray, List.set_cons_zero, List.set_cons_succ]
            refine wpAnyH_take (i := 26) (oi := { dst := some 145, op := Op.move (Operand.tmp 16), type := 3, pos := "law.go:107", after := #[{ on := 24, ground := Ground.guard }], guard := some (24, false) }) (v := .int .i64 (i : Int)) rfl (by kernel_rfl) (by kernel_rfl) (by kernel_rfl) (fun _ _ _ h => h) (Or.inl ⟨by rfl, fun V hV => by (dsimp only at hV; go_simp)⟩) hHeld ?_
            try simp only [Act.put, List.setIfInBounds_toArray, List.set_cons_zero, List.set_cons_succ]
            refine wpAnyH_take (i := 27) (oi := { dst := some 146, op := Op.indexAddr 22 (Operand.tmp 144) (Operand.tmp 145), type := 0, pos := "law.go:107", after := #[{ on := 25, ground := Ground.data }, { on := 26, ground := Ground.data }, { on := 24, ground := Ground.guard }], guard := some (24, false) }) (v := .pointer (some ⟨g1, i * 3, none⟩)) rfl (by kernel_rfl) (by kernel_rfl) (by kernel_rfl) (fun _ _ _ h => h) (Or.inl ⟨by rfl, fun V hV => by (dsimp only at hV; go_simp)⟩) hHeld ?_
            try simp only [Act.put, List.setIfInBounds_toArray, List.set_cons_zero, List.set_cons_succ]
            refine wpAnyH_take (i := 28) (oi := { dst := some 147, op := Op.fieldAddr 32 (Operand.tmp 146) 1, type := 0, pos := "law.go:107", after := #[{ on := 27, ground := Ground.data }, { on := 24, ground := Ground.guard }], guard := some (24, false) }) (v := .pointer (some ⟨g1, i * 3 + 1, none⟩)) rfl (by kernel_rfl) (by kernel_rfl) (by kernel_rfl) (fun _ _ _ h => h) (Or.inl ⟨by rfl, fun V hV => by (dsimp only at hV; go_simp)⟩) hHeld ?_
            try simp only [Act.put, List.setIfInBounds_toArray, List.set_cons_zero, List.set_cons_succ]
            refine wpAnyH_take (i := 29) (oi := { dst := some 148, op := Op.load 3 (Operand.tmp 147), type := 3, pos := "law.go:107", after := #[{ on := 28, ground := Ground.data }, { on := 24, ground := Ground.guard }], guard := some (24, false) }) (v := .int .i64 (ya : Int)) rfl (by kernel_rfl) (by kernel_rfl) (by kernel_rfl) (fun _ _ _ h => h) (Or.inl ⟨by rfl, fun V hV => by (dsimp only at hV; go_simp)⟩) hHeld ?_
            try simp only [Act.put, List.setIfInBounds_toArray, List.set_cons_zero, List.set_cons_succ]
            refine wpAnyH_take (i := 30) (oi := { dst := some 149, op := Op.binOp BinOp.lss 3 (Operand.tmp 148) (Operand.const (Value.int IntKind.i64 0)) 3, type := 4, pos := "law.go:107", after := #[{ on := 29, ground := Ground.data }, { on := 24, ground := Ground.guard }], guard := some (24, false) }) (v := .bool false) rfl (by kernel_rfl) (by kernel_rfl) (by kernel_rfl) (fun _ _ _ h => h) (Or.inl ⟨by rfl, fun V hV => by (dsimp only at hV; go_simp)⟩) hHeld ?_
            try simp only [Act.put, List.setIfInBounds_toArray, List.set_cons_zero, List.set_cons_succ]
            refine wpAnyH_take (i := 31) (oi := { dst := some 150, op := Op.pick (Operand.tmp 143) (Operand.const (Value.bool true)) (Operand.tmp 149), type := 4, pos := "law.go:107", after := #[{ on := 24, ground := Ground.data }, { on := 30, ground := Ground.data }], guard := none }) (v := .bool false) rfl (by kernel_rfl) (by kernel_rfl) (by kernel_rfl) (fun _ _ _ h => h) (Or.inl ⟨by rfl, fun V hV => by (dsimp only at hV; go_simp)⟩) hHeld ?_
            try simp only [Act.put, List.setIfInBounds_toArray, List.set_cons_zero, List.set_cons_succ]
            refine wpAnyH_take (i := 32) (oi := { dst := some 151, op := Op.move (Operand.tmp 150), type := 4, pos := "law.go:107", after := #[{ on := 31, ground := Ground.data }, { on := 24, ground := Ground.chain }], guard := none }) (v := .bool false) rfl (by kernel_rfl) (by kernel_rfl) (by kernel_rfl) (fun _ _ _ h => h) (Or.inl ⟨by rfl, fun V hV => by (dsimp only at hV; go_simp)⟩) hHeld ?_
            try simp only [Act.put, List.setIfInBounds_toArray, List.set_cons_zero, List.set_cons_succ]
            refine wpAnyH_take (i := 33) (oi := { dst := some 152, op := Op.move (Operand.tmp 5), type := 22, pos := "law.go:107", after := #[{ on := 32, ground := Ground.guard }], guard := some (32, false) }) (v := .slice (some ⟨g1, 0, none⟩) T.length c1) rfl (by kernel_rfl) (by kernel_rfl) (by kernel_rfl) (fun _ _ _ h => h) (Or.inl ⟨by rfl, fun V hV => by (dsimp only at hV; go_simp)⟩) hHeld ?_
            try simp only [Act.put, List.setIfInBounds_toArray, List.set_cons_zero, List.set_cons_succ]
            refine wpAnyH_take (i := 34) (oi := { dst := some 153, op := Op.move (Operand.tmp 16), type := 3, pos := "law.go:107", after := #[{ on := 32, ground := Ground.guard }], guard := some (32, false) }) (v := .int .i64 (i : Int)) rfl (by kernel_rfl) (by kernel_rfl) (by kernel_rfl) (fun _ _ _ h => h) (Or.inl ⟨by rfl, fun V hV => by (dsimp only at hV; go_simp)⟩) hHeld ?_
            try simp only [Act.put, List.setIfInBounds_toArray, List.set_cons_zero, List.set_cons_succ]
            refine wpAnyH_take (i := 35) (oi := { dst := some 154, op := Op.indexAddr 22 (Operand.tmp 152) (Operand.tmp 153), type := 0, pos := "law.go:107", after := #[{ on := 33, ground := Ground.data }, { on := 34, ground := Ground.data }, { on := 32, ground := Ground.guard }], guard := some (32, false) }) (v := .pointer (some ⟨g1, i * 3, none⟩)) rfl (by kernel_rfl) (by kernel_rfl) (by kernel_rfl) (fun _ _ _ h => h) (Or.inl ⟨by rfl, fun V hV => by (dsimp only at hV; go_simp)⟩) hHeld ?_
            try simp only [Act.put, List.setIfInBounds_toArray, List.set_cons_zero, List.set_cons_succ]
            refine wpAnyH_take (i := 36) (oi := { dst := some 155, op := Op.fieldAddr 32 (Operand.tmp 154) 1, type := 0, pos := "law.go:107", after := #[{ on := 35, ground := Ground.data }, { on := 32, ground := Ground.guard }], guard := some (32, false) }) (v := .pointer (some ⟨g1, i * 3 + 1, none⟩)) rfl (by kernel_rfl) (by kernel_rfl) (by kernel_rfl) (fun _ _ _ h => h) (Or.inl ⟨by rfl, fun V hV => by (dsimp only at hV; go_simp)⟩) hHeld ?_
            try simp only [Act.put, List.setIfInBounds_toArray, List.set_cons_zero, List.set_cons_succ]
            refine wpAnyH_take (i := 37) (oi := { dst := some 156, op := Op.load 3 (Operand.tmp 155), type := 3, pos := "law.go:107", after := #[{ on := 36, ground := Ground.data }, { on := 32, ground := Ground.guard }], guard := some (32, false) }) (v := .int .i64 (ya : Int)) rfl (by kernel_rfl) (by kernel_rfl) (by kernel_rfl) (fun _ _ _ h => h) (Or.inl ⟨by rfl, fun V hV => by (dsimp only at hV; go_simp)⟩) hHeld ?_
            try simp only [Act.put, List.setIfInBounds_toArray, List.set_cons_zero, List.set_cons_succ]
            refine wpAnyH_take (i := 38) (oi := { dst := some 157, op := Op.move (Operand.tmp 0), type := 9, pos := "law.go:107", after := #[{ on := 32, ground := Ground.guard }], guard := some (32, false) }) (v := .string s) rfl (by kernel_rfl) (by kernel_rfl) (by kernel_rfl) (fun _ _ _ h => h) (Or.inl ⟨by rfl, fun V hV => by (dsimp only at hV; go_simp)⟩) hHeld ?_
            try simp only [Act.put, List.setIfInBounds_toArray, List.set_cons_zero, List.set_cons_succ]
            refine wpAnyH_take (i := 39) (oi := { dst := some 158, op := Op.call { callee := Callee.builtin Builtin.len, args := #[Operand.tmp 157], argTypes := #[9] }, type := 3, pos := "law.go:107", after := #[{ on := 38, ground := Ground.data }, { on := 32, ground := Ground.guard }], guard := some (32, false) }) (v := .int .i64 (s.size : Int)) rfl (by kernel_rfl) (by kernel_rfl) (by kernel_rfl) (fun _ _ _ h => h) (Or.inl ⟨by rfl, fun V hV => by (dsimp only at hV; go_simp)⟩) hHeld ?_
            try simp only [Act.put, List.setIfInBounds_toArray, List.set_cons_zero, List.set_cons_succ]
            refine wpAnyH_take (i := 40) (oi := { dst := some 159, op := Op.binOp BinOp.geq 3 (Operand.tmp 156) (Operand.tmp 158) 3, type := 4, pos := "law.go:107", after := #[{ on := 37, ground := Ground.data }, { on := 39, ground := Ground.data }, { on := 32, ground := Ground.guard }], guard := some (32, false) }) (v := .bool false) rfl (by kernel_rfl) (by kernel_rfl) (by kernel_rfl) (fun _ _ _ h => h) (Or.inl ⟨by rfl, fun V hV => by (dsimp only at hV; go_simp)⟩) hHeld ?_
            try simp only [Act.put, List.setIfInBounds_toArray, List.set_cons_zero, List.set_cons_succ]
            refine wpAnyH_take (i := 41) (oi := { dst := some 160, op := Op.pick (Operand.tmp 151) (Operand.const (Value.bool true)) (Operand.tmp 159), type := 4, pos := "law.go:107", after := #[{ on := 32, ground := Ground.data }, { on := 40, ground := Ground.data }], guard := none }) (v := .bool false) rfl (by kernel_rfl) (by kernel_rfl) (by kernel_rfl) (fun _ _ _ h => h) (Or.inl ⟨by rfl, fun V hV => by (dsimp only at hV; go_simp)⟩) hHeld ?_
            try simp only [Act.put, List.setIfInBounds_toArray, List.set_cons_zero, List.set_cons_succ]
            refine wpAnyH_take (i := 42) (oi := { dst := some 161, op := Op.move (Operand.tmp 160), type := 4, pos := "law.go:107", after := #[{ on := 41, ground := Ground.data }, { on := 32, ground := Ground.chain }], guard := none }) (v := .bool false) rfl (by kernel_rfl) (by kernel_rfl) (by kernel_rfl) (fun _ _ _ h => h) (Or.inl ⟨by rfl, fun V hV => by (dsimp only at hV; go_simp)⟩) hHeld ?_
            try simp only [Act.put, List.setIfInBounds_toArray, List.set_cons_zero, List.set_cons_succ]
            refine wpAnyH_take (i := 43) (oi := { dst := some 162, op := Op.move (Operand.tmp 16), type := 3, pos := "law.go:107", after := #[{ on := 42, ground := Ground.guard }], guard := some (42, false) }) (v := .int .i64 (i : Int)) rfl (by kernel_rfl) (by kernel_rfl) (by kernel_rfl) (fun _ _ _ h => h) (Or.inl ⟨by rfl, fun V hV => by (dsimp only at hV; go_simp)⟩) hHeld ?_
            try simp only [Act.put, List.setIfInBounds_toArray, List.set_cons_zero, List.set_cons_succ]
            refine wpAnyH_take (i := 44) (oi := { dst := some 163, op := Op.binOp BinOp.gtr 3 (Operand.tmp 162) (Operand.const (Value.int IntKind.i64 0)) 3, type := 4, pos := "law.go:107", after := #[{ on := 43, ground := Ground.data }, { on := 42, ground := Ground.guard }], guard := some (42, false) }) (v := .bool true) rfl (by kernel_rfl) (by kernel_rfl) (by kernel_rfl) (fun _ _ _ h => h) (Or.inl ⟨by rfl, fun V hV => by (dsimp only at hV; go_simp <;> omega)⟩) hHeld ?_
            try simp only [Act.put, List.setIfInBounds_toArray, List.set_cons_zero, List.set_cons_succ]
            refine wpAnyH_take (i := 45) (oi := { dst := some 164, op := Op.move (Operand.tmp 163), type := 4, pos := "law.go:107", after := #[{ on := 44, ground := Ground.data }, { on := 42, ground := Ground.chain }, { on := 42, ground := Ground.guard }], guard := some (42, false) }) (v := .bool true) rfl (by kernel_rfl) (by kernel_rfl) (by kernel_rfl) (fun _ _ _ h => h) (Or.inl ⟨by rfl, fun V hV => by (dsimp only at hV; go_simp)⟩) hHeld ?_
            try simp only [Act.put, List.setIfInBounds_toArray, List.set_cons_zero, List.set_cons_succ]
            refine wpAnyH_take (i := 46) (oi := { dst := some 165, op := Op.move (Operand.tmp 5), type := 22, pos := "law.go:107", after := #[{ on := 45, ground := Ground.guard }], guard := some (45, true) }) (v := .slice (some ⟨g1, 0, none⟩) T.length c1) rfl (by kernel_rfl) (by kernel_rfl) (by kernel_rfl) (fun _ _ _ h => h) (Or.inl ⟨by rfl, fun V hV => by (dsimp only at hV; go_simp)⟩) hHeld ?_
            try simp only [Act.put, List.setIfInBounds_toArray, List.set_cons_zero, List.set_cons_succ]
            refine wpAnyH_take (i := 47) (oi := { dst := some 166, op := Op.move (Operand.tmp 16), type := 3, pos := "law.go:107", after := #[{ on := 45, ground := Ground.guard }], guard := some (45, true) }) (v := .int .i64 (i : Int)) rfl (by kernel_rfl) (by kernel_rfl) (by kernel_rfl) (fun _ _ _ h => h) (Or.inl ⟨by rfl, fun V hV => by (dsimp only at hV; go_simp)⟩) hHeld ?_
            try simp only [Act.put, List.setIfInBounds_toArray, List.set_cons_zero, List.set_cons_succ]
            refine wpAnyH_take (i := 48) (oi := { dst := some 167, op := Op.binOp BinOp.sub 3 (Operand.tmp 166) (Operand.const (Value.int IntKind.i64 1)) 3, type := 3, pos := "law.go:107", after := #[{ on := 47, ground := Ground.data }, { on := 45, ground := Ground.guard }], guard := some (45, true) }) (v := .int .i64 (m : Int)) rfl (by kernel_rfl) (by kernel_rfl) (by kernel_rfl) (fun _ _ _ h => h) (Or.inl ⟨by rfl, fun V hV => by (dsimp only at hV; go_simp)⟩) hHeld ?_
            try simp only [Act.put, List.setIfInBounds_toArray, List.set_cons_zero, List.set_cons_succ]
            refine wpAnyH_take (i := 49) (oi := { dst := some 168, op := Op.indexAddr 22 (Operand.tmp 165) (Operand.tmp 167), type := 0, pos := "law.go:107", after := #[{ on := 46, ground := Ground.data }, { on := 48, ground := Ground.data }, { on := 45, ground := Ground.guard }], guard := some (45, true) }) (v := .pointer (some ⟨g1, m * 3, none⟩)) rfl (by kernel_rfl) (by kernel_rfl) (by kernel_rfl) (fun _ _ _ h => h) (Or.inl ⟨by rfl, fun V hV => by (dsimp only at hV; go_simp)⟩) hHeld ?_
            try simp only [Act.put, List.setIfInBounds_toArray, List.set_cons_zero, List.set_cons_succ]
            refine wpAnyH_take (i := 50) (oi := { dst := some 169, op := Op.fieldAddr 32 (Operand.tmp 168) 1, type := 0, pos := "law.go:107", after := #[{ on := 49, ground := Ground.data }, { on := 45, ground := Ground.guard }], guard := some (45, true) }) (v := .pointer (some ⟨g1, m * 3 + 1, none⟩)) rfl (by kernel_rfl) (by kernel_rfl) (by kernel_rfl) (fun _ _ _ h => h) (Or.inl ⟨by rfl, fun V hV => by (dsimp only at hV; go_simp)⟩) hHeld ?_
            try simp only [Act.put, List.setIfInBounds_toArray, List.set_cons_zero, List.set_cons_succ]
            refine wpAnyH_take (i := 51) (oi := { dst := some 170, op := Op.load 3 (Operand.tmp 169), type := 3, pos := "law.go:107", after := #[{ on := 50, ground := Ground.data }, { on := 45, ground := Ground.guard }], guard := some (45, true) }) (v := .int .i64 (za : Int)) rfl (by kernel_rfl) (by kernel_rfl) (by kernel_rfl) (fun _ _ _ h => h) (Or.inl ⟨by rfl, fun V hV => by (dsimp only at hV; go_simp)⟩) hHeld ?_
            try simp only [Act.put, List.setIfInBounds_toArray, List.set_cons_zero, List.set_cons_succ]
            refine wpAnyH_take (i := 52) (oi := { dst := some 171, op := Op.move (Operand.tmp 5), type := 22, pos := "law.go:107", after := #[{ on := 45, ground := Ground.guard }], guard := some (45, true) }) (v := .slice (some ⟨g1, 0, none⟩) T.length c1) rfl (by kernel_rfl) (by kernel_rfl) (by kernel_rfl) (fun _ _ _ h => h) (Or.inl ⟨by rfl, fun V hV => by (dsimp only at hV; go_simp)⟩) hHeld ?_
            try simp only [Act.put, List.setIfInBounds_toArray, List.set_cons_zero, List.set_cons_succ]
            refine wpAnyH_take (i := 53) (oi := { dst := some 172, op := Op.move (Operand.tmp 16), type := 3, pos := "law.go:107", after := #[{ on := 45, ground := Ground.guard }], guard := some (45, true) }) (v := .int .i64 (i : Int)) rfl (by kernel_rfl) (by kernel_rfl) (by kernel_rfl) (fun _ _ _ h => h) (Or.inl ⟨by rfl, fun V hV => by (dsimp only at hV; go_simp)⟩) hHeld ?_
            try simp only [Act.put, List.setIfInBounds_toArray, List.set_cons_zero, List.set_cons_succ]
            refine wpAnyH_take (i := 54) (oi := { dst := some 173, op := Op.indexAddr 22 (Operand.tmp 171) (Operand.tmp 172), type := 0, pos := "law.go:107", after := #[{ on := 52, ground := Ground.data }, { on := 53, ground := Ground.data }, { on := 45, ground := Ground.guard }], guard := some (45, true) }) (v := .pointer (some ⟨g1, i * 3, none⟩)) rfl (by kernel_rfl) (by kernel_rfl) (by kernel_rfl) (fun _ _ _ h => h) (Or.inl ⟨by rfl, fun V hV => by (dsimp only at hV; go_simp)⟩) hHeld ?_
            try simp only [Act.put, List.setIfInBounds_toArray, List.set_cons_zero, List.set_cons_succ]
            refine wpAnyH_take (i := 55) (oi := { dst := some 174, op := Op.fieldAddr 32 (Operand.tmp 173) 1, type := 0, pos := "law.go:107", after := #[{ on := 54, ground := Ground.data }, { on := 45, ground := Ground.guard }], guard := some (45, true) }) (v := .pointer (some ⟨g1, i * 3 + 1, none⟩)) rfl (by kernel_rfl) (by kernel_rfl) (by kernel_rfl) (fun _ _ _ h => h) (Or.inl ⟨by rfl, fun V hV => by (dsimp only at hV; go_simp)⟩) hHeld ?_
            try simp only [Act.put, List.setIfInBounds_toArray, List.set_cons_zero, List.set_cons_succ]
            refine wpAnyH_take (i := 56) (oi := { dst := some 175, op := Op.load 3 (Operand.tmp 174), type := 3, pos := "law.go:107", after := #[{ on := 55, ground := Ground.data }, { on := 45, ground := Ground.guard }], guard := some (45, true) }) (v := .int .i64 (ya : Int)) rfl (by kernel_rfl) (by kernel_rfl) (by kernel_rfl) (fun _ _ _ h => h) (Or.inl ⟨by rfl, fun V hV => by (dsimp only at hV; go_simp)⟩) hHeld ?_
            try simp only [Act.put, List.setIfInBounds_toArray, List.set_cons_zero, List.set_cons_succ]
            refine wpAnyH_take (i := 57) (oi := { dst := some 176, op := Op.binOp BinOp.geq 3 (Operand.tmp 170) (Operand.tmp 175) 3, type := 4, pos := "law.go:107", after := #[{ on := 51, ground := Ground.data }, { on := 56, ground := Ground.data }, { on := 45, ground := Ground.guard }], guard := some (45, true) }) (v := .bool false) rfl (by kernel_rfl) (by kernel_rfl) (by kernel_rfl) (fun _ _ _ h => h) (Or.inl ⟨by rfl, fun V hV => by (dsimp only at hV; go_simp)⟩) hHeld ?_
            try simp only [Act.put, List.setIfInBounds_toArray, List.set_cons_zero, List.set_cons_succ]
            refine wpAnyH_take (i := 58) (oi := { dst := some 177, op := Op.pick (Operand.tmp 164) (Operand.tmp 176) (Operand.const (Value.bool false)), type := 4, pos := "law.go:107", after := #[{ on := 45, ground := Ground.data }, { on := 57, ground := Ground.data }, { on := 42, ground := Ground.guard }], guard := some (42, false) }) (v := .bool false) rfl (by kernel_rfl) (by kernel_rfl) (by kernel_rfl) (fun _ _ _ h => h) (Or.inl ⟨by rfl, fun V hV => by (dsimp only at hV; go_simp)⟩) hHeld ?_
            try simp only [Act.put, List.setIfInBounds_toArray, List.set_cons_zero, List.set_cons_succ]
            refine wpAnyH_take (i := 59) (oi := { dst := some 178, op := Op.pick (Operand.tmp 161) (Operand.const (Value.bool true)) (Operand.tmp 177), type := 4, pos := "law.go:107", after := #[{ on := 42, ground := Ground.data }, { on := 58, ground := Ground.data }], guard := none }) (v := .bool false) rfl (by kernel_rfl) (by kernel_rfl) (by kernel_rfl) (fun _ _ _ h => h) (Or.inl ⟨by rfl, fun V hV => by (dsimp only at hV; go_simp)⟩) hHeld ?_
            try simp only [Act.put, List.setIfInBounds_toArray, List.set_cons_zero, List.set_cons_succ]
            refine wpAnyH_done (by kernel_rfl) ?_ _
            go_wp2
            go_roundw
            case rel => exact ⟨i + 1, by omega, rfl, below_trans HBr.out (below_drew _)⟩
            case measure => simp [intOf]; omega
        · have hie : i = M.length := by omega
          have m1 : ¬ (M.length : Int) < (M.length : Int) := by omega
          subst hie
          go_wp2
          go_ret
          exact ⟨rfl, below_trans HB9.out HBr.out⟩
    · obtain ⟨rfl, rfl⟩ := hlong (by omega)
      have hPb : ¬ (PT.size : Int) ≤ 1994 := by omega
      clear HS HP hR hR2 hok hlong hYl hY hY1 hs1 hPl hPT hPr hpv hws hrs hbig hwl hPs hlen
      go_enter Tryd.func3, Tryd.ntmps3
      go_wp2_with (first
        | (go_at_call 4; (with_reducible refine Calls.mono (HSc.out _ (HE.out _ (Below.refl _ _))) ?_); rintro e w5 ⟨v1, rfl, h1, h2⟩; have HT5 := hide h1; obtain ⟨p1, c1, rfl⟩ := tkAt_len h1; have HB5 := hide h2; clear h1 h2)
        | (go_at_call 5; (with_reducible refine Calls.mono (HH.out _ (HE.out _ HB5.out)) ?_); rintro e w7 ⟨rfl, h2⟩; have HB7 := hide (below_trans HB5.out h2); have HT7 := hide (HT5.out.later h2); clear h2)
        | (go_at_call 7; (with_reducible refine Calls.mono (HPr.out _ _ (HE.out _ HB7.out) (tgAt_of HT7.out)) ?_); rintro e w8 ⟨rfl, h2⟩; have HB8 := hide (below_trans HB7.out h2); clear h2)
        | (go_at_call 4; (with_reducible refine Calls.mono (HSY.out _ (HE.out _ HB8.out)) ?_); rintro e w9 ⟨v2, rfl, h1, h2⟩; obtain ⟨p2, c2, rfl⟩ := tkAt_len h1; have HB9 := hide (below_trans HB8.out h2); clear h1 h2))
      go_loopw [16] (fun iv wr => iv = .int .i64 0 ∧ wr = w9) (fun _ _ => 0)
      case atStart => exact ⟨rfl, rfl⟩
      case round =>
        obtain ⟨rfl, rfl⟩ := hrel
        go_wp2
        go_ret
        exact ⟨rfl, HB9.out⟩
  have b0 : (b != 0) = true := by simpa [bne] using h0
  obtain ⟨q, e1, e2, e3, hq, hcase⟩ := betw_bad s.data.toList more.data.toList (by rw [hR]; exact h0) (by rw [size_list, size_list]; omega)
  rw [hR] at e1 e2 e3
  simp only at e1 e2 e3
  subst e1 e2 e3
  obtain ⟨X1, hX1⟩ : ∃ X1, s ++ ({ data := #[10, 59] } : ByteArray) = X1 := ⟨_, rfl⟩
  obtain ⟨X, hX⟩ : ∃ X, X1 ++ more = X := ⟨_, rfl⟩
  have hXl : X.data.toList = s.data.toList ++ 10 :: 59 :: more.data.toList := by
    rw [← hX, ← hX1, app_list, app_list]; simp
  have hs1 : X1.size = s.size + 2 := by rw [← size_list, ← hX1, app_list, List.length_append, size_list]; rfl
  have hcat1 : ∀ V, (Op.stringOp BinOp.add s { data := #[10, 59] }).run Tryd.prog V = .ok (.string X1) V := fun V => by rw [← hX1]; exact run_string_add_sum V _ _ (by show s.size + 2 ≤ _; omega)
  have hcat2 : ∀ V, (Op.stringOp BinOp.add X1 more).run Tryd.prog V = .ok (.string X) V := fun V => by rw [← hX]; exact run_string_add_sum V _ _ (by omega)
  rw [← hXl] at hcase
  obtain ⟨M, c, d, hR2⟩ : ∃ M c d, scanR X.data.toList = (M, c, d) := ⟨_, _, _, rfl⟩
  have HSX := hide (scanOk_of (HS X) hR2)
  rw [hR2] at hcase
  simp only at hcase
  have HO : Hid (opn s.data.toList q → ∀ V, Calls Tryd.prog 6 #[.string s, .int .i64 (q : Int)] V fun e w' => e = .returned (.bool true) ∧ V = w') := fun h V => open_t s q h V
  clear HS HP hR hR2 hXl hX hX1 hs1 hq h0 hbig
  rcases hcase with ⟨rfl, rfl, rfl | ⟨hlt, ho⟩⟩ | ⟨rfl, ho⟩
  · go_enter Tryd.func3, Tryd.ntmps3
    go_wp2_with (first
      | (go_at_call 4; (with_reducible refine Calls.mono (HSc.out _ (HE.out _ (Below.refl _ _))) ?_); rintro e w5 ⟨v1, rfl, h1, h2⟩; obtain ⟨p1, c1, rfl⟩ := tkAt_len h1; have HB5 := hide h2; clear h1 h2)
      | (go_at_call 4; (with_reducible refine Calls.mono (HSX.out _ (HE.out _ HB7.out)) ?_); rintro e w8 ⟨v2, rfl, h1, h2⟩; obtain ⟨p2, c2, rfl⟩ := tkAt_len h1; have HB8 := hide (below_trans HB7.out h2); clear h1 h2)
      | (go_at_call 5; (with_reducible refine Calls.mono (HH.out _ (HE.out _ HB5.out)) ?_); rintro e w7 ⟨rfl, h2⟩; have HB7 := hide (below_trans HB5.out h2); clear h2))
    go_ret
    exact ⟨rfl, HB8.out⟩
  · have f1 : (c == (q : Int)) = false := by simp; omega
    have HO2 := hide (HO.out ho)
    clear ho HO
    go_enter Tryd.func3, Tryd.ntmps3
    go_wp2_with (first
      | (go_at_call 4; (with_reducible refine Calls.mono (HSc.out _ (HE.out _ (Below.refl _ _))) ?_); rintro e w5 ⟨v1, rfl, h1, h2⟩; obtain ⟨p1, c1, rfl⟩ := tkAt_len h1; have HB5 := hide h2; clear h1 h2)
      | (go_at_call 4; (with_reducible refine Calls.mono (HSX.out _ (HE.out _ HB7.out)) ?_); rintro e w8 ⟨v2, rfl, h1, h2⟩; obtain ⟨p2, c2, rfl⟩ := tkAt_len h1; have HB8 := hide (below_trans HB7.out h2); clear h1 h2)
      | (go_at_call 6; (with_reducible refine Calls.mono (HO2.out _) ?_); rintro e w9 ⟨rfl, rfl⟩)
      | (go_at_call 5; (with_reducible refine Calls.mono (HH.out _ (HE.out _ HB5.out)) ?_); rintro e w7 ⟨rfl, h2⟩; have HB7 := hide (below_trans HB5.out h2); clear h2))
    go_ret
    exact ⟨rfl, HB8.out⟩
  · have HO2 := hide (HO.out ho)
    clear ho HO
    go_enter Tryd.func3, Tryd.ntmps3
    go_wp2_with (first
      | (go_at_call 4; (with_reducible refine Calls.mono (HSc.out _ (HE.out _ (Below.refl _ _))) ?_); rintro e w5 ⟨v1, rfl, h1, h2⟩; obtain ⟨p1, c1, rfl⟩ := tkAt_len h1; have HB5 := hide h2; clear h1 h2)
      | (go_at_call 4; (with_reducible refine Calls.mono (HSX.out _ (HE.out _ HB7.out)) ?_); rintro e w8 ⟨v2, rfl, h1, h2⟩; have HB8 := hide (below_trans HB7.out h2); clear h1 h2)
      | (go_at_call 6; (with_reducible refine Calls.mono (HO2.out _) ?_); rintro e w9 ⟨rfl, rfl⟩)
      | (go_at_call 5; (with_reducible refine Calls.mono (HH.out _ (HE.out _ HB5.out)) ?_); rintro e w7 ⟨rfl, h2⟩; have HB7 := hide (below_trans HB5.out h2); clear h2))
    go_ret
    exact ⟨rfl, HB8.out⟩
end Go.Proofs.YtkooijhdjjdigabDoor
