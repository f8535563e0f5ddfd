/- Who holds a lock: Holders. -/
import Derived.Test.YthenbbpfbkmhnaaE
import Derived.Laws.AppendOwn
import Derived.OwnWalk
namespace Go.Proofs.Ythenbbpfbkmhnaa
open Go.ChangeShapes Go.WideShapes Go.ChangeAt Go.RowKit
set_option linter.unusedVariables false

theorem infoI : ∃ i, Try.prog.info? 3 = some i ∧ i.zero = some (.int .i64 0) ∧ i.size = 1 ∧ i.bytes = 8 := by
  have h : (Try.prog.info? 3).map (fun i => (i.zero, i.size, i.bytes)) = some (some (.int .i64 0), 1, 8) := by kernel_rfl
  obtain ⟨i, h1, h2⟩ := Option.map_eq_some_iff.1 h
  simp only [Prod.mk.injEq] at h2
  exact ⟨i, h1, h2.1, h2.2.1, h2.2.2⟩
theorem Only.grown {S : List Nat} {w w1 w2 : World} {row : Option Nat} (h : Only S w w1) (hg : w1.grownBy w2 row) (hr : ∀ k, row = some k → w.heap.size ≤ k) : Only S w w2 :=
  h.andThen (Only.of_grown hg) (fun j hj => .inr (hr j (by simpa using hj)))
/-- A number appended to a row that is owned. -/
theorem wp_appI {ops : Array Oper} {rest : List Oper} {o : Oper} {a : Act} {Q : Exit → Act → World → Prop} {w : World} {base n : Nat} {v : Value} {xs : List Value} (hown : w.ownsRow base 3 1 v n xs) {b : Nat} {x : Int}
    (hnews : w.cell? ⟨b, 0, none⟩ = some (.int .i64 x)) (hn : n ≤ 1000) (hbase : base ≤ w.heap.size) (s z : Operand)
    (hgd : o.guard = none) (ho : o.op = .call { callee := .builtin .append, args := #[s, z], argTypes := #[41, 41] }) (hs : a.eval s = v) (hz : a.eval z = .slice (some ⟨b, 0, none⟩) 1 1)
    (hk : ∀ v' w', w'.ownsRow base 3 1 v' (n + 1) (xs ++ [.int .i64 x]) → (∀ S w0, w0.heap.size = base → Only S w0 w → Only S w0 w') → wpList Try.prog ops Q rest (a.put o.dst v') w') : wpList Try.prog ops Q (o :: rest) a w := by
  obtain ⟨i, hi, hz0, hsz, hby⟩ := infoI
  refine wpList_append_own w hgd s z 41 ho base 3 i _ 1 8 Try.underlying41 hi hz0 hsz hby rfl (by omega) v n xs hs hown ⟨b, 0, none⟩ 1 1 [.int .i64 x] hz rfl ?_ ?_ (by simp only [maxLen]; omega) (by omega) hbase (fun v' w' h2 h3 h4 => hk v' w' h2 (fun S w0 hb hA => hA.grown h3 (fun k e => ?_)))
  · intro j u hu
    have hj : j = 0 := by
      have := (List.getElem?_eq_some_iff.1 hu).1
      simp at this; exact this
    subst hj
    simp at hu
    subst hu
    exact hnews
  · intro u hu
    simp at hu
    subst hu
    rfl
  · rcases hown.2 with ⟨rfl, _⟩ | ⟨g, cap, cur, rfl, hbg, _⟩
    · cases e
    · simp only [Value.ownBlock, Option.some.injEq] at e
      omega
/-- Of the first j connections those that hold the lock, or more. -/
def hol (h : List Int) (l : Int) (j : Nat) : List Int := ((List.range j).filter fun i => decide (l ≤ gt h i)).map fun (i : Nat) => (i : Int)
theorem hol_succ (h : List Int) (l : Int) (j : Nat) : hol h l (j + 1) = hol h l j ++ (if l ≤ gt h j then [(j : Int)] else []) := by
  unfold hol
  rw [List.range_succ, List.filter_append, List.map_append]
  congr 1
  by_cases e : l ≤ gt h j <;> simp [e]
theorem hol_length (h : List Int) (l : Int) (j : Nat) : (hol h l j).length ≤ j := by
  unfold hol
  rw [List.length_map]
  have := List.length_filter_le (fun i => decide (l ≤ gt h i)) (List.range j)
  simpa using this

theorem holders_nil (w : World) (l : Int) : Calls Try.prog 14 #[.pointer none, .int .i64 l] w fun e w' => e = .returned (.slice none 0 0) ∧ w = w' := by
  go_enter Try.func14, Try.ntmps14
  go_wp2_with (go_at_call 19; refine Calls.mono (there_nil _) ?_; rintro e w4 ⟨rfl, rfl⟩)
  go_ret
  exact ⟨rfl, rfl⟩
theorem holders_bad (w : World) (g : Nat) (h : List Int) (hb : TB w g h) (l : Int) (hl : okL l = false) : Calls Try.prog 14 #[.pointer (some ⟨g, 0, none⟩), .int .i64 l] w fun e w' => e = .returned (.slice none 0 0) ∧ w = w' := by
  have HT := hide (there_some w g h hb)
  clear hb
  go_enter Try.func14, Try.ntmps14
  go_wp2_with (first
      | (go_at_call 19; refine Calls.mono HT.out ?_; rintro e w4 ⟨rfl, rfl⟩)
      | (go_at_call 21; refine Calls.mono (isLock_any _ _) ?_; rintro e w4 ⟨rfl, rfl⟩))
  go_ret
  exact ⟨rfl, rfl⟩
set_option maxHeartbeats 1000000 in
theorem holders_ok (w : World) (g : Nat) (L : List Int) (h8 : L.length = 8) (hb : TB w g L) (l : Int) (hl : okL l = true) : Calls Try.prog 14 #[.pointer (some ⟨g, 0, none⟩), .int .i64 l] w fun e w' =>
    (∃ v, e = .returned v ∧ w'.ownsRow w.heap.size 3 1 v (hol L l 8).length (hcl (hol L l 8))) ∧ Only [] w w' := by
  have HT := hide (there_some w g L hb)
  have HR := hide (held_range hb)
  have H8 := hide h8
  clear hb h8
  go_enter Try.func14, Try.ntmps14
  go_wp2_with (first
      | (go_at_call 19; refine Calls.mono HT.out ?_; rintro e w4 ⟨rfl, rfl⟩)
      | (go_at_call 21; refine Calls.mono (isLock_any _ _) ?_; rintro e w4 ⟨rfl, rfl⟩)
      | (refine wp_loadH H8.out HR.out _ (by rfl) (by rfl) (by rfl) ?_))
  go_loopw [5, 20] (fun sv iv wr => ∃ j : Nat, j ≤ 8 ∧ iv = .int .i64 (j : Int) ∧ wr.ownsRow w.heap.size 3 1 sv (hol L l j).length (hcl (hol L l j)) ∧ Only [] w wr) (fun _ iv _ => 8 - (intOf iv).toNat)
  case atStart => exact ⟨0, Nat.zero_le _, rfl, World.ownsRow_nil _ _ _ _, Only.refl _ _⟩
  case round =>
    obtain ⟨j, hj, rfl, how, hO⟩ := hrel
    have HOw := hide how
    have HO := hide hO
    clear how hO
    by_cases hlt : j < 8
    · have l1 : (j : Int) < 8 := by omega
      have l0 : (0 : Int) ≤ (j : Int) := by omega
      have hw1 : IntKind.i64.wrap ((j : Int) + 1) = (j : Int) + 1 := by rw [IntKind.wrap_i64]; omega
      have hx := index_held wr H8.out hlt
      by_cases e1 : l ≤ gt L j
      · have HS : Hid (hol L l (j + 1) = hol L l j ++ [(j : Int)]) := by show hol L l (j + 1) = _; rw [hol_succ, if_pos e1]
        have HOa := hide (HOw.out.alloc (.cells #[.int .i64 (j : Int)] 3))
        have HCa : Hid ((wr.alloc (.cells #[.int .i64 (j : Int)] 3)).cell? ⟨wr.heap.size, 0, none⟩ = some (.int .i64 (j : Int))) := ((Blk.new wr #[.int .i64 (j : Int)] 3).cell 0).trans rfl
        have HNa := hide (show (hol L l j).length ≤ 1000 by have := hol_length L l j; omega)
        have HSa := hide (show w.heap.size ≤ (wr.alloc (.cells #[.int .i64 (j : Int)] 3)).heap.size by have := HO.out.size; simp; omega)
        go_wp2_with (first
          | (at_builtin; refine wp_appI HOa.out HCa.out HNa.out HSa.out _ _ (by rfl) (by rfl) (by rfl) (by rfl) ?_; intro v5 w5 ho5 hk5; have HO5 := hide ho5; have HK5 := hide hk5; clear ho5 hk5))
        refine ⟨⟨j + 1, hlt, rfl, ?_, HK5.out _ _ rfl (HO.out.trans (Only.alloc _ _ _))⟩, ?_⟩
        · rw [HS.out, List.length_append]
          have := HO5.out
          simpa [hcl] using this
        · simp only [intOf]; omega
      · have HS : Hid (hol L l (j + 1) = hol L l j) := by show hol L l (j + 1) = _; rw [hol_succ, if_neg e1, List.append_nil]
        go_wp2
        refine ⟨⟨j + 1, hlt, rfl, ?_, HO.out⟩, ?_⟩
        · rw [HS.out]; exact HOw.out
        · simp only [intOf]; omega
    · obtain rfl : j = 8 := by omega
      go_wp2
      go_ret
      exact ⟨⟨_, rfl, HOw.out⟩, HO.out⟩
end Go.Proofs.Ythenbbpfbkmhnaa
