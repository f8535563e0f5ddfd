/- The walk of ValueRows. -/
import Derived.Test.YtghemaghbpekfaaGreatDoorUF
import Derived.Laws.AppendOwn
namespace Go.Proofs.YtghemaghbpekfaaGreatDoor
open Go.ChangeShapes Go.WideShapes Go.ChangeAt Go.RowKit
set_option linter.unusedVariables false

/-- The cells of integers. -/
def intL (C : Nat → Int) (n : Nat) : List Value := (List.range n).map fun i => .int .i64 (C i)
theorem intL_succ (C : Nat → Int) (n : Nat) : intL C (n + 1) = intL C n ++ [.int .i64 (C n)] := by simp [intL, List.range_succ]
theorem intL_at {C : Nat → Int} {n j : Nat} (h : j < n) : (intL C n)[j]? = some (.int .i64 (C j)) := by simp [intL, h]
theorem coll_info : ∃ i, Tryz.prog.info? 25 = some i ∧ i.zero = some (.int .i64 0) ∧ i.size = 1 ∧ i.bytes = 8 := by
  have h : (Tryz.prog.info? 25).map (fun i => (i.zero, i.size, i.bytes)) = some (some (.int .i64 0), 1, 8) := by kernel_rfl
  obtain ⟨i, h1, h2⟩ := Option.map_eq_some_iff.1 h
  simp only [Prod.mk.injEq] at h2
  exact ⟨i, h1, h2.1, h2.2.1, h2.2.2⟩
theorem own_later {w w' : World} {base e size n : Nat} {v : Value} {xs : List Value} (h : w.ownsRow base e size v n xs) (hb : Below w.heap.size w w') : w'.ownsRow base e size v n xs := by
  obtain ⟨h1, h2⟩ := h
  refine ⟨h1, ?_⟩
  rcases h2 with h2 | ⟨g, cap, cur, a1, a2, a3, a4⟩
  · exact .inl h2
  · exact .inr ⟨g, cap, cur, a1, a2, by rw [hb.block g (Array.getElem?_eq_some_iff.1 a3).1]; exact a3, a4⟩
theorem own_coll {w : World} {base n : Nat} {v : Value} {C : Nat → Int} (h : w.ownsRow base 25 1 v n (intL C n)) : CollIs w v n C := by
  rcases h.2 with ⟨rfl, rfl⟩ | ⟨g, cap, cur, rfl, hbg, hg, hnc, hcm, hcs, htake⟩
  · exact .inl ⟨rfl, _, _, rfl⟩
  · refine .inr ⟨g, 0, cap, rfl, fun i hi => ?_⟩
    have c := h.cells (g := g) rfl _ _ (intL_at hi)
    have e : ∀ j, (⟨g, 0, none⟩ : Addr).add j = ⟨g, j, none⟩ := fun j => by unfold Addr.add; split <;> simp_all
    rw [e] at c
    rw [Nat.zero_add]
    exact c
/-- One collation more. -/
theorem wp_appC {ops : Array Oper} {rest : List Oper} {o : Oper} {a : Act} {Q : Exit → Act → World → Prop} {w : World} {base n : Nat} {v : Value} {C : Nat → Int} (hown : w.ownsRow base 25 1 v n (intL C n)) {h : Nat}
    (hc : w.heap[h]? = some (.cells #[.int .i64 (C n)] 25 (0, 0))) (hn : (n + 1) * 8 ≤ 140737488355328) (hbase : base ≤ w.heap.size) (s z : Operand)
    (hgd : o.guard = none) (ho : o.op = .call { callee := .builtin .append, args := #[s, z], argTypes := #[33, 33] }) (hs : a.eval s = v) (hz : a.eval z = .slice (some ⟨h, 0, none⟩) 1 1)
    (hk : ∀ v' w', w'.ownsRow base 25 1 v' (n + 1) (intL C (n + 1)) → (∀ A, Below base A w → Below base A w') → wpList Tryz.prog ops Q rest (a.put o.dst v') w') : wpList Tryz.prog ops Q (o :: rest) a w := by
  obtain ⟨i, hi, hz0, hsz, hby⟩ := coll_info
  refine wpList_append_own w hgd s z 33 ho base 25 i (.int .i64 0) 1 8 Tryz.underlying33 hi hz0 hsz hby rfl (by omega) v n (intL C n) hs hown ⟨h, 0, none⟩ 1 1 [.int .i64 (C n)] hz rfl (by
    intro j u hu
    have e : (⟨h, 0, none⟩ : Addr).add j = ⟨h, j, none⟩ := by unfold Addr.add; split <;> simp_all
    rw [e, block_cell hc]
    simpa using hu) (by
    intro u hu
    simp at hu
    subst hu; rfl) (by simp only [maxLen]; omega) hn hbase (fun v' w' h2 h3 h4 => hk v' w' (by rw [intL_succ]; exact h2) (fun A hA => hA.grown h3 hbase (fun k e => ?_)))
  rcases hown.2 with ⟨rfl, _⟩ | ⟨g, cap, cur, rfl, hbg, _⟩
  · cases e
  · simp only [Value.ownBlock, Option.some.injEq] at e
    omega

set_option maxHeartbeats 2000000 in
set_option maxRecDepth 10000 in
theorem vrows_c (a b : Value) (la lb : Nat) (K N : Nat → Int) (T : Nat → ByteArray) (K2 N2 : Nat → Int) (T2 : Nat → ByteArray) (hla : la * 32 ≤ 140737488355328) (hlb : lb * 32 ≤ 140737488355328) (hin : inRow la N) (cb co n cc : Nat) (C : Nat → Int) (hn : n * 8 ≤ 140737488355328)
    (w : World) (hE : Env w) (ha : RowIs w a la K N T) (hb : RowIs w b lb K2 N2 T2) (hc : IntAt w cb co n C) :
    Calls Tryz.prog 4 #[a, b, .slice (some ⟨cb, co, none⟩) n cc] w fun e w' => e = .returned (.bool true) ∧ Below w.heap.size w w' := by
  obtain ⟨s, E, hpr⟩ := both_print (K := K) (T := T) hla hin
  have HPR := hide hpr
  have HRa := hide ha
  have HRb := hide hb
  have HCc := hide hc
  have HE : Hid (∀ V, Below w.heap.size w V → Env V) := fun V hV => hE.below hV
  have HO0 : Hid (w.ownsRow w.heap.size 25 1 (.slice none 0 0) 0 (intL C 0)) := World.ownsRow_nil w _ _ _
  have HN := hide hn
  have HLa := hide hla
  have HLb := hide hlb
  clear hpr ha hb hc hE hla hlb
  go_enter Tryz.func4, Tryz.ntmps4
  go_wp2
  go_loopw [8, 7] (fun iv lv wr => ∃ j : Nat, j ≤ n ∧ iv = .int .i64 (j : Int) ∧ wr.ownsRow w.heap.size 25 1 lv j (intL C j) ∧ Below w.heap.size w wr) (fun iv _ _ => n - (intOf iv).toNat)
  case atStart => exact ⟨0, Nat.zero_le _, rfl, HO0.out, Below.refl _ _⟩
  case round =>
    obtain ⟨j, hj, rfl, hown, hb⟩ := hrel
    have HO := hide hown
    have HB := hide hb
    clear hown hb
    by_cases hlt : j < n
    · have l1 : (j : Int) < (n : Int) := by omega
      have l0 : (0 : Int) ≤ (j : Int) := by omega
      have hw1 : IntKind.i64.wrap ((j : Int) + 1) = (j : Int) + 1 := by rw [IntKind.wrap_i64]; omega
      have cj := (HCc.out.later HB.out) j hlt
      have HOn := hide (own_later HO.out (new_below wr (.cells #[.int .i64 (C j)] 25) rfl))
      have HBn := hide (below_trans HB.out (new_below wr (.cells #[.int .i64 (C j)] 25) rfl))
      have HS1 := hide (show (j + 1) * 8 ≤ 140737488355328 by have := HN.out; omega)
      go_wp2_with (first
        | (at_builtin; refine wp_appC HOn.out (heap_alloc_new wr _) HS1.out HBn.out.size _ _ (by rfl) (by rfl) (by rfl) (by rfl) ?_; intro v' w2 ho hk; have HO2 := hide ho; have HB2 := hide (hk _ HBn.out); clear ho hk))
      refine ⟨⟨j + 1, hlt, rfl, HO2.out, HB2.out⟩, ?_⟩
      simp only [intOf]; omega
    · have l1 : ¬ (j : Int) < (n : Int) := by omega
      obtain rfl : n = j := by omega
      have HCl := hide (own_coll HO.out)
      have HCp := hide (copy_is HLa.out wr a (HRa.out.later HB.out))
      go_wp2_with (first
        | (go_at_call 11; with_reducible refine Calls.mono HCp.out ?_; rintro e w2 ⟨v2, rfl, hr2, hb2⟩; have HB2 := hide (below_trans HB.out hb2); have HK2 := hide hb2; have HP2 := hide (HPR.out w2 v2 (HE.out _ (below_trans HB.out hb2)) hr2).1; clear hb2 hr2)
        | (go_at_call 10; with_reducible refine Calls.mono HP2.out ?_; rintro e w3 ⟨rfl, hb3⟩; have HB3 := hide (below_trans HB2.out hb3); have HK3 := hide (below_trans HK2.out hb3); have HP3 := hide (HPR.out w3 a (HE.out _ (below_trans HB2.out hb3)) (HRa.out.later (below_trans HB2.out hb3))).2; clear hb3)
        | (go_at_call 12; with_reducible refine Calls.mono HP3.out ?_; rintro e w4 ⟨rfl, hb4⟩; have HB4 := hide (below_trans HB3.out hb4); have HK4 := hide (below_trans HK3.out hb4); clear hb4)
        | (go_at_call 5; with_reducible refine Calls.mono (head_walk _ (HE.out _ HB4.out)) ?_; rintro e w5 ⟨rfl, hb5⟩; have HB5 := hide (below_trans HB4.out hb5); have HK5 := hide (below_trans HK4.out hb5); have HQ5 := hide (both_cmp (by have := HLa.out; omega) (by have := HLb.out; omega) w5 (HRa.out.later HB5.out) (HRb.out.later HB5.out) (HCl.out.later HK5.out)).1; clear hb5)
        | (go_at_call 13; with_reducible refine Calls.mono HQ5.out ?_; rintro e w6 ⟨rfl, hb6⟩; have HB6 := hide (below_trans HB5.out hb6); have HK6 := hide (below_trans HK5.out hb6); have HQ6 := hide (both_cmp (by have := HLa.out; omega) (by have := HLb.out; omega) w6 (HRa.out.later HB6.out) (HRb.out.later HB6.out) (HCl.out.later HK6.out)).2; clear hb6)
        | (go_at_call 14; with_reducible refine Calls.mono HQ6.out ?_; rintro e w7 ⟨rfl, hb7⟩; have HB7 := hide (below_trans HB6.out hb7); clear hb7))
      go_ret
      exact ⟨by simp, HB7.out⟩
end Go.Proofs.YtghemaghbpekfaaGreatDoor
