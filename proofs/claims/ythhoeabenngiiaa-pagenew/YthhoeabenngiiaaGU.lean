/- The walk of PageNew over no cells; a row of texts as an argument, opened. -/
import Derived.Test.YthhoeabenngiiaaGT
import Derived.Deep.Slices
import Derived.Carry
import Derived.SizedLaws
namespace Go.Proofs.Ythhoeabenngiiaa
open Go.ChangeShapes Go.WideShapes Go.ChangeAt Go.RowKit Go.Deep
set_option linter.unusedVariables false

set_option maxHeartbeats 2000000 in
theorem pnew_nil (k L : Nat) (hk : k < 256) (hL : L < 4294967296) (p : Option Addr) (cap : Nat) (hp : p = none → cap = 0) (w : World) :
    Calls Try.prog 4 #[.int .u8 (k : Int), .int .u32 (L : Int), .slice p 0 cap] w fun e w' => e = .returned (.bool true) ∧ Below w.heap.size w w' := by
  have HB1 := hide (new_below w (.cells #[] 9) rfl)
  have hap : ∀ ty, (Builtin.append_ #[25, 25] ty #[.slice (some ⟨w.heap.size, 0, none⟩) 0 0, .slice p 0 cap]).run Try.prog (w.alloc (.cells #[] 9)) = .ok (.slice (some ⟨w.heap.size, 0, none⟩) 0 0) (w.alloc (.cells #[] 9)) := fun ty => by
    obtain ⟨i, hi, hz, hsz, hby⟩ := str_info
    cases p <;> simp [Builtin.append_, run_underlying Try.underlying25, sizeOf, typeInfo, hi, Builtin.lenOf, Builtin.firstCells, loadCells, loadCellsFrom, storeCells]
  have HAP := hide hap
  have hz := zero_page.1
  have w2 : IntKind.i64.wrap (k : Int) = (k : Int) := by rw [IntKind.wrap_i64]; omega
  have HN := hide (new_walk k L hk hL w.heap.size 0 0 0 noS (by omega) (w.alloc (.cells #[] 9)) (fun i hi => by omega))
  have HM := hide (fun V => rnew_nil k L hL p cap V)
  clear hap hk hL hp
  go_enter Try.func4, Try.ntmps4
  go_wp2_with (first
    | (at_builtin; refine wp_run2 (by rfl) _ _ _ _ (by rfl) _ _ _ _ (by rfl) (by rfl) (HAP.out _) ?_)
    | (go_at_call 18; with_reducible refine Calls.mono HN.out ?_; rintro e w3 ⟨⟨l, x, hl, hx, rfl⟩, hb⟩; have HL := hide hl; have HX := hide hx; have HZ3 := hide (PAt.new w3 zs); have HG3 := hide (below_trans HB1.out hb).size; have HB3 := hide (below_trans HB1.out (below_trans hb (new_below w3 (.cells (bc zs) 23) rfl))); clear hb hl hx)
    | (refine wp_storeP HL.out zs_length HZ3.out _ _ (by rfl) (by rfl) (by rfl) (by rfl) ?_; intro W4 hp hb hk; have HP4 := hide hp; have HB4 := hide (hb _ _ HB3.out HG3.out); clear hp hb hk)
    | (go_at_call 19; with_reducible refine Calls.mono (HM.out _) ?_; rintro e w5 ⟨⟨l', x', hl', hx', rfl⟩, hb⟩; obtain ⟨rfl, rfl⟩ := HX.out.same hx'; have HZ5 := hide (PAt.new w5 zs); have HP5 := hide (HP4.out.later (below_trans hb (new_below w5 (.cells (bc zs) 23) rfl))); have HB5 := hide (below_trans HB4.out (below_trans hb (new_below w5 (.cells (bc zs) 23) rfl))); have HG5 := hide (below_trans HB4.out hb).size; have HN5 := hide (Nat.ne_of_lt (Nat.lt_of_lt_of_le (Array.getElem?_eq_some_iff.1 HP4.out).1 hb.size)); clear hb hl' hx')
    | (refine wp_storeP HL.out zs_length HZ5.out _ _ (by rfl) (by rfl) (by rfl) (by rfl) ?_; intro W6 hp hb hk; have HP6 := hide hp; have HB6 := hide (hb _ _ HB5.out HG5.out); have HO6 := hide ((hk _ HN5.out).trans HP5.out); clear hp hb hk))
  have HA := hide (awake_walk W6)
  have heq := eq_page HL.out
  refine wp_loop_rounds 1 ?_
  rw [rounds_succ]
  go_wp2_with (first
    | (refine wp_loadP HL.out HO6.out _ (by rfl) (by rfl) (by rfl) ?_)
    | (refine wp_loadP HL.out HP6.out _ (by rfl) (by rfl) (by rfl) ?_)
    | (go_at_call 17; with_reducible refine Calls.mono HA.out ?_; rintro e w8 ⟨rfl, hb⟩; have HB8 := hide (below_trans HB6.out hb); clear hb))
  go_ret
  exact ⟨rfl, HB8.out⟩

theorem cells9' : Try.prog.cellsOf 9 = 1 := by kernel_rfl
theorem laidOutD : laidOutB Try.prog = true := by kernel_rfl

set_option maxRecDepth 100000 in
/-- A row of texts. -/
theorem open_strs {H : Type} {enc : TypeId × Value → H} {w : World} {fuel : Nat} {cs : List Value} {x : DataW H × List MemPlace} (h : DataW.trod enc Try.prog w 0 (fun _ => true) true fuel 25 cs = some x) :
    cs = [.slice none 0 0] ∨ (∃ a cap, cs = [.slice (some a) 0 cap]) ∨
    ∃ (b o len cap : Nat) (S : Nat → ByteArray), cs = [.slice (some ⟨b, o, none⟩) len cap] ∧ 0 < len ∧ StrAt w b o len S := by
  rcases open_slice Try.underlying25 h with h0 | ⟨a, len, cap, m, n, D, Pl, rfl, hb, hl, hm, hmm, rfl, hx⟩
  · exact Or.inl h0.1
  right
  simp only [if_true] at hmm
  by_cases h0 : len = 0
  · subst h0; exact Or.inl ⟨a, cap, rfl⟩
  right
  have each : ∀ i, i < m → ∃ q : ByteArray, w.cell? (a.add i) = some (.string q) := by
    intro i hi
    obtain ⟨cs', h1, h2⟩ := hx i hi
    rw [cells9'] at h1
    obtain ⟨_, hlen, hcell⟩ := World.cells?_some h1
    obtain ⟨r, e2, _, _⟩ := DataW.trod_string Try.underlying9 h2
    subst e2
    have c0 := hcell 0 (by omega)
    rw [add_add] at c0
    exact ⟨r, by simpa using c0⟩
  obtain ⟨q, hq⟩ := choose_lt each
  obtain ⟨b, o, spot⟩ := a
  have hspot : spot = none := by simpa [Addr.add] using World.cell?_spot (hq 0 (by omega))
  subst hspot
  refine ⟨b, o, len, cap, q, rfl, by omega, fun i hi => ?_⟩
  have c0 := hq i (by omega)
  rwa [add_plain] at c0
end Go.Proofs.Ythhoeabenngiiaa
