/- The walk of PageNew. -/
import Derived.Test.YthhoeabenngiiaaGS
namespace Go.Proofs.Ythhoeabenngiiaa
open Go.ChangeShapes Go.WideShapes Go.ChangeAt Go.RowKit
set_option linter.unusedVariables false

set_option maxHeartbeats 1000000 in
theorem pnew_many (k L : Int) (p : Option Addr) (n cap : Nat) (hn : 2000 < n) (w : World) :
    Calls Try.prog 4 #[.int .u8 k, .int .u32 L, .slice p n cap] w fun e w' => e = .returned (.bool true) ∧ Below w.heap.size w w' := by
  have l1 : (2000 : Int) < (n : Int) := by omega
  have HA := hide (awake_walk w)
  go_enter Try.func4, Try.ntmps4
  go_wp2_with (first
    | (go_at_call 17; with_reducible refine Calls.mono HA.out ?_; rintro e w1 ⟨rfl, hb⟩; have HB1 := hide hb; clear hb))
  go_ret
  exact ⟨rfl, HB1.out⟩

theorem wp_run2 {ops : Array Oper} {rest : List Oper} {o : Oper} {a : Act} {Q : Exit → Act → World → Prop} {w : World} (hgd : o.guard = none) (sl x : Operand) (t u : TypeId)
    (ho : o.op = .call { callee := .builtin .append, args := #[sl, x], argTypes := #[t, u] }) (v xv v' : Value) (w' : World) (hs : a.eval sl = v) (hx : a.eval x = xv)
    (hr : (Builtin.append_ #[t, u] o.type #[v, xv]).run Try.prog w = .ok v' w') (h : wpList Try.prog ops Q rest (a.put o.dst v') w') : wpList Try.prog ops Q (o :: rest) a w := by
  refine wpList_plain hgd fun K hK => ?_
  unfold Oper.wp execOp
  simp only [ho, resolve, invoke, builtin, Sem.run_bind, Sem.run_pure, Result.andThen_ok, List.map_toArray, List.map_cons, List.map_nil, hs, hx, hr]
  exact hK _ _ h

/-- A row's cells. -/
def strL (n : Nat) (S : Nat → ByteArray) : List Value := (List.range n).map fun i => .string (S i)
theorem strL_at {n : Nat} {S : Nat → ByteArray} {j : Nat} (h : j < n) : (strL n S)[j]? = some (.string (S j)) := by simp [strL, h]
theorem str_info : ∃ i, Try.prog.info? 9 = some i ∧ i.zero = some (.string ⟨#[]⟩) ∧ i.size = 1 ∧ i.bytes = 16 := by
  have h : (Try.prog.info? 9).map (fun i => (i.zero, i.size, i.bytes)) = some (some (.string ⟨#[]⟩), 1, 16) := by kernel_rfl
  obtain ⟨i, h1, h2⟩ := Option.map_eq_some_iff.1 h
  simp only [Prod.mk.injEq] at h2
  exact ⟨i, h1, h2.1, h2.2.1, h2.2.2⟩
/-- The copy that append makes of some texts. -/
theorem app_copy (W : World) (g0 b o n cap : Nat) (S : Nat → ByteArray) (h0 : 0 < n) (hn : n ≤ 1000000) (h : StrAt W b o n S) :
    ∃ g cc w', (∀ ty, (Builtin.append_ #[25, 25] ty #[.slice (some ⟨g0, 0, none⟩) 0 0, .slice (some ⟨b, o, none⟩) n cap]).run Try.prog W = .ok (.slice (some ⟨g, 0, none⟩) n cc) w') ∧ StrAt w' g 0 n S ∧ Below W.heap.size W w' := by
  obtain ⟨i, hi, hz, hsz, hby⟩ := str_info
  have e : ∀ j, (⟨b, o, none⟩ : Addr).add j = ⟨b, o + j, none⟩ := fun j => by unfold Addr.add; split <;> simp_all
  have hr := fun ty => run_append_grow (P := Try.prog) W 25 ty 9 i (.string ⟨#[]⟩) Try.underlying25 hi hz ⟨g0, 0, none⟩ 0 0 [] (by simp) (fun j v hv => by simp at hv) ⟨b, o, none⟩ n cap (strL n S) (by simp [strL, hsz]) (fun j v hv => by
    have hj : j < n := by simpa [strL] using (List.getElem?_eq_some_iff.1 hv).1
    rw [strL_at hj] at hv
    obtain rfl := Option.some.inj hv
    rw [e]; exact h j hj) (by omega) (by omega) (by rw [hby]; exact growslice_fits (by omega) (by omega))
  simp only [Nat.zero_add] at hr
  refine ⟨_, _, _, hr, fun j hj => ?_, (Below.refl _ W).drew.alloc (Nat.le_refl _) _⟩
  have hg : (W.drew.alloc (.cells ((#[] : Array Value) ++ (strL n S).toArray ++ Builtin.zeroCells (Value.string ⟨#[]⟩).cells (grownCap W n 0 9 - n)) 9)).heap[W.heap.size]? = _ := heap_alloc_new W.drew _
  rw [cell_of_row _ _ _ _ _ _ hg, Nat.zero_add, Array.getElem?_append_left (by simpa [strL] using hj)]
  simpa using strL_at hj

theorem eq_page {l : List UInt8} (hl : l.length = 256) (V : World) : (binOp .eql 23 (.agg (bc l)) (.agg (bc l))).run Try.prog V = .ok (.bool true) V := by
  have := run_eql_bytes (P := Try.prog) V 23 5 256 page_arr Try.underlying5 size5 l l hl hl
  simp only [BEq.rfl] at this
  exact this

set_option maxHeartbeats 2000000 in
theorem pnew_some (k L : Nat) (hk : k < 256) (hL : L < 4294967296) (b o n cap : Nat) (S : Nat → ByteArray) (h0 : 0 < n) (hn : n ≤ 2000) (w : World) (h : StrAt w b o n S) :
    Calls Try.prog 4 #[.int .u8 (k : Int), .int .u32 (L : Int), .slice (some ⟨b, o, none⟩) n cap] w fun e w' => e = .returned (.bool true) ∧ Below w.heap.size w w' := by
  have l1 : ¬ (2000 : Int) < (n : Int) := by omega
  have HB0 := hide (new_below w (.cells #[] 9) rfl)
  obtain ⟨g, cc, w1, hap, hst, hb1⟩ := app_copy (w.alloc (.cells #[] 9)) w.heap.size b o n cap S h0 (by omega) (h.later HB0.out)
  have HAP := hide hap
  have HS1 := hide hst
  have HB1 := hide (below_trans HB0.out hb1)
  have HR := hide h
  have hz := zero_page.1
  have w2 : IntKind.i64.wrap (k : Int) = (k : Int) := by rw [IntKind.wrap_i64]; omega
  have HN := hide (new_walk k L hk hL g 0 n cc S (by omega) w1 hst)
  have HM := hide (fun V (hV : Below w.heap.size w V) => rnew_walk k L hL b o n cap S (by omega) V (h.later hV))
  clear hap hst hb1 h hk hL
  go_enter Try.func4, Try.ntmps4
  go_wp2_with (first
    | (at_builtin; refine wp_run2 (by rfl) _ _ _ _ (by rfl) _ _ _ w1 (by rfl) (by rfl) (HAP.out _) ?_)
    | (go_at_call 18; with_reducible refine Calls.mono HN.out ?_; rintro e w3 ⟨⟨l, x, hl, hx, rfl⟩, hb⟩; have HL := hide hl; have HX := hide hx; have HZ3 := hide (PAt.new w3 zs); have HC3 := hide (below_trans hb (new_below w3 (.cells (bc zs) 23) rfl)); have HGc3 := hide hb.size; have HG3 := hide (below_trans HB1.out hb).size; have HB3 := hide (below_trans HB1.out (below_trans hb (new_below w3 (.cells (bc zs) 23) rfl))); clear hb hl hx)
    | (refine wp_storeP HL.out zs_length HZ3.out _ _ (by rfl) (by rfl) (by rfl) (by rfl) ?_; intro W4 hp hb hk; have HP4 := hide hp; have HB4 := hide (hb _ _ HB3.out HG3.out); have HC4 := hide (hb _ _ HC3.out HGc3.out); clear hp hb hk)
    | (go_at_call 19; with_reducible refine Calls.mono (HM.out _ HB4.out) ?_; rintro e w5 ⟨⟨l', x', hl', hx', rfl⟩, hb⟩; obtain ⟨rfl, rfl⟩ := HX.out.same hx'; have HZ5 := hide (PAt.new w5 zs); have HP5 := hide (HP4.out.later (below_trans hb (new_below w5 (.cells (bc zs) 23) rfl))); have HB5 := hide (below_trans HB4.out (below_trans hb (new_below w5 (.cells (bc zs) 23) rfl))); have HG5 := hide (below_trans HB4.out hb).size; have HN5 := hide (Nat.ne_of_lt (Nat.lt_of_lt_of_le (Array.getElem?_eq_some_iff.1 HP4.out).1 hb.size)); have HC5 := hide (below_trans HC4.out (below_trans hb (new_below w5 (.cells (bc zs) 23) rfl))); have HGc5 := hide (below_trans HC4.out hb).size; clear hb hl' hx')
    | (refine wp_storeP HL.out zs_length HZ5.out _ _ (by rfl) (by rfl) (by rfl) (by rfl) ?_; intro W6 hp hb hk; have HP6 := hide hp; have HB6 := hide (hb _ _ HB5.out HG5.out); have HO6 := hide ((hk _ HN5.out).trans HP5.out); have HC6 := hide (hb _ _ HC5.out HGc5.out); clear hp hb hk))
  have HS6 := hide (HS1.out.later HC6.out)
  have HR6 := hide (HR.out.later HB6.out)
  have HA := hide (awake_walk W6)
  have heq := eq_page HL.out
  go_loopw [12] (fun iv wr => ∃ j : Nat, j ≤ n ∧ iv = .int .i64 (j : Int) ∧ Below W6.heap.size W6 wr) (fun iv _ => n - (intOf iv).toNat)
  case atStart => exact ⟨0, Nat.zero_le _, rfl, Below.refl _ _⟩
  case round =>
    obtain ⟨j, hj, rfl, hb⟩ := hrel
    have HBj := hide hb
    clear hb
    by_cases hlt : j < n
    · have l3 : (j : Int) < (n : Int) := by omega
      have l0 : (0 : Int) ≤ (j : Int) := by omega
      have hw1 : IntKind.i64.wrap ((j : Int) + 1) = (j : Int) + 1 := by rw [IntKind.wrap_i64]; omega
      have c1 := (HS6.out.later HBj.out.drew) j hlt
      rw [Nat.zero_add] at c1
      have c2 := (HR6.out.later HBj.out.drew) j hlt
      go_wp2
      go_region
      all_goals (try go_wp2)
      all_goals
        refine ⟨⟨j + 1, hlt, rfl, HBj.out.drew⟩, ?_⟩
        simp only [intOf]; omega
    · have l3 : ¬ (j : Int) < (n : Int) := by omega
      have HA2 := hide (awake_walk wr)
      have HO7 := hide (PAt.later (show PAt W6 w3.heap.size l from HO6.out) HBj.out)
      have HP7 := hide (HP6.out.later HBj.out)
      have HB7 := hide (below_trans HB6.out HBj.out)
      go_wp2_with (first
        | (refine wp_loadP HL.out HO7.out _ (by rfl) (by rfl) (by rfl) ?_)
        | (refine wp_loadP HL.out HP7.out _ (by rfl) (by rfl) (by rfl) ?_)
        | (go_at_call 17; with_reducible refine Calls.mono HA2.out ?_; rintro e w8 ⟨rfl, hb⟩; have HB8 := hide (below_trans HB7.out hb); clear hb))
      go_ret
      exact ⟨rfl, HB8.out⟩
end Go.Proofs.Ythhoeabenngiiaa
