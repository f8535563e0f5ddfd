/- Rows of steps that came in as an argument; SpillBack's row, lifted. -/
/- Proved here: for every list of steps the Go function bureaulaw11.SpillBack returns true, whatever is in memory: every payload that is put in is told again as it was, whatever others are put in and taken out, and taking all out leaves every page free. No condition (beyond 40 payloads the law asks only its fixed answers). -/
import Derived.Test.YthgclfhfipfknaaGreatPPS
import Derived.Test.YthgclfhfipfknaaGreatRWA
import Derived.Carry
import Derived.ShutString
import Derived.ChangeOld
namespace Go.Proofs.YthgclfhfipfknaaGreat
open Go.ChangeShapes Go.WideShapes Go.ChangeAt Go.RowKit Go.Deep
set_option linter.unusedVariables false

theorem cellsOp11 : Tryz.prog.cellsOf 34 = 4 := by kernel_rfl
theorem cellsU8' : Tryz.prog.cellsOf 5 = 1 := by kernel_rfl
theorem cellsB' : Tryz.prog.cellsOf 4 = 1 := by kernel_rfl
theorem cellsS' : Tryz.prog.cellsOf 9 = 1 := by kernel_rfl
theorem four_of {α : Type} {l : List α} (h : l.length = 4) : ∃ a b c d, l = [a, b, c, d] := by
  match l, h with
  | [a, b, c, d], _ => exact ⟨a, b, c, d, rfl⟩
theorem u8_of {n : Int} (h : (Lit.int .u8 n).wf = true) : ∃ x : Nat, n = (x : Int) ∧ x < 256 := by
  simp only [Lit.wf, Bool.and_eq_true, decide_eq_true_eq] at h
  have e1 : IntKind.u8.min = 0 := by decide
  have e2 : IntKind.u8.max = 255 := by decide
  rw [e1, e2] at h
  exact ⟨n.toNat, by omega, by omega⟩
theorem size_of_reach {s : ByteArray} (h : s.data.toList.length ≤ reachBytes) : s.size ≤ 140737488355328 := by
  have e : s.size = s.data.toList.length := by cases s; rfl
  rw [e]
  exact Nat.le_trans h (by decide)
theorem weightsAll_mem {H : Type} {P : Program} {e : TypeId} {n : Nat} : ∀ {el : List (DataW H)} {i : Nat} {d : DataW H}, el[i]? = some d → n ∈ d.weights P e → n ∈ DataW.weightsAll P e el
  | d0 :: el, 0, d, h, hn => by
    simp only [List.getElem?_cons_zero, Option.some.injEq] at h
    subst h
    simp only [DataW.weightsAll, List.mem_append]
    exact .inl hn
  | d0 :: el, i + 1, d, h, hn => by
    simp only [List.getElem?_cons_succ] at h
    simp only [DataW.weightsAll, List.mem_append]
    exact .inr (weightsAll_mem h hn)
  | [], _, _, h, _ => by simp at h
theorem ops_sized {H : Type} {ts : List TypeId} {ds : List (DataW H)} {d0 : DataW H} (hsz : (DataW.weightsEach Tryz.prog ts ds).all (· ≤ reachBytes) = true) (ht : ts[0]? = some 22) (hd : ds[0]? = some d0) (el sp : List (DataW H)) (i : Nat) (a b c : DataW H) (bs : List UInt8) (h1 : d0 = .slice el sp) (h2 : el[i]? = some (.agg [a, b, c, .lit (.string bs)])) : bs.length ≤ reachBytes := by
  subst h1
  have hm : bs.length ∈ (DataW.agg [a, b, c, .lit (.string bs)]).weights Tryz.prog 34 := by
    simp [DataW.weights, Tryz.underlying34, DataW.weightsEach]
  have hm2 : bs.length ∈ (DataW.slice el sp).weights Tryz.prog 22 := by
    simp only [DataW.weights, Tryz.underlying22]
    exact List.mem_cons_of_mem _ (List.mem_append_left _ (weightsAll_mem h2 hm))
  have := List.all_eq_true.1 hsz _ (DataW.weights_mem_each ht hd _ hm2)
  simpa using this
set_option maxRecDepth 100000 in
theorem open_ops11 {H : Type} {enc : TypeId × Value → H} {w : World} {fuel : Nat} {cs : List Value} {x : DataW H × List MemPlace} (h : DataW.trod enc Tryz.prog w 0 (fun _ => true) true fuel 22 cs = some x)
    (hz : ∀ (el sp : List (DataW H)) (i : Nat) (a b c : DataW H) (bs : List UInt8), x.1 = .slice el sp → el[i]? = some (.agg [a, b, c, .lit (.string bs)]) → bs.length ≤ reachBytes) :
    ∃ (p : Option Addr) (len cap : Nat) (D : Nat → Bool) (N : Nat → Int) (B : Nat → Nat) (S : Nat → ByteArray), cs = [.slice p len cap] ∧ OpQ w p len D N B S := by
  rcases open_slice Tryz.underlying22 h with h0 | ⟨a, len, cap, m, n, DD, Pl, rfl, hb, hl, hm, hmm, hxx, hx⟩
  · exact ⟨none, 0, 0, fun _ => false, fun _ => 0, fun _ => 0, fun _ => ⟨#[]⟩, h0.1, fun h => by omega⟩
  simp only [if_true] at hmm
  by_cases h0 : len = 0
  · subst h0; exact ⟨some a, 0, cap, fun _ => false, fun _ => 0, fun _ => 0, fun _ => ⟨#[]⟩, rfl, fun h => by omega⟩
  have each : ∀ i, i < m → ∃ q : Bool × Int × Nat × ByteArray, w.cell? (a.add (i * 4)) = some (.bool q.1) ∧ w.cell? (a.add (i * 4 + 1)) = some (.int .i64 q.2.1) ∧ w.cell? (a.add (i * 4 + 2)) = some (.int .u8 (q.2.2.1 : Int)) ∧ w.cell? (a.add (i * 4 + 3)) = some (.string q.2.2.2) ∧ q.2.2.1 < 256 ∧ ∃ y0 y1 y2, DD i = .agg [y0, y1, y2, .lit (.string q.2.2.2.data.toList)] := by
    intro i hi
    obtain ⟨cs', h1, h2⟩ := hx i hi
    rw [cellsOp11] at h1
    obtain ⟨_, hlen, hcell⟩ := World.cells?_some h1
    obtain ⟨xs, k, hk, hxy, _, hxl, hf⟩ := DataW.trod_struct Tryz.underlying34 h2
    obtain ⟨y0, y1, y2, y3, rfl⟩ := four_of (show xs.length = 4 from hxl)
    obtain ⟨v0, v1, v2, v3, rfl⟩ := four_of hlen
    have g0 := hf 0 _ rfl
    have g1 := hf 1 _ rfl
    have g2 := hf 2 _ rfl
    have g3 := hf 3 _ rfl
    simp [cellsInt, cellsU8', cellsB', cellsS'] at g0 g1 g2 g3
    obtain ⟨p0, e0, _⟩ := DataW.trod_bool Tryz.underlying4 g0
    obtain ⟨p1, e1, _, _⟩ := DataW.trod_int Tryz.underlying3 g1
    obtain ⟨p2, e2, _, wf⟩ := DataW.trod_int Tryz.underlying5 g2
    obtain ⟨p3, e3, hy3, _⟩ := DataW.trod_string Tryz.underlying9 g3
    simp at e0 e1 e2 e3
    subst e0 e1 e2 e3 hy3
    obtain ⟨xx, rfl, hxx2⟩ := u8_of wf
    have c0 := hcell 0 (by omega)
    have c1 := hcell 1 (by omega)
    have c2 := hcell 2 (by omega)
    have c3 := hcell 3 (by omega)
    rw [add_add] at c0 c1 c2 c3
    refine ⟨⟨p0, p1, xx, p3⟩, by simpa using c0, by simpa using c1, by simpa using c2, by simpa using c3, hxx2, y0.1, y1.1, y2.1, ?_⟩
    have := congrArg Prod.fst hxy
    simpa using this
  obtain ⟨q, hq⟩ := choose_lt each
  obtain ⟨b, o, spot⟩ := a
  have hspot : spot = none := by simpa [Addr.add] using World.cell?_spot (hq 0 (by omega)).1
  subst hspot
  refine ⟨some ⟨b, o, none⟩, len, cap, fun i => (q i).1, fun i => (q i).2.1, fun i => (q i).2.2.1, fun i => (q i).2.2.2, rfl, fun _ => ⟨b, o, rfl, fun i hi => ?_⟩⟩
  obtain ⟨c0, c1, c2, c3, c4, y0, y1, y2, c5⟩ := hq i (by omega)
  rw [add_plain] at c0 c1 c2 c3
  refine ⟨fun j v hj => ?_, c4, size_of_reach ?_⟩
  · have hj4 : j < 4 := by
      have := (List.getElem?_eq_some_iff.1 hj).1
      simpa [opA] using this
    rw [Nat.add_assoc]
    match j, hj4 with
    | 0, _ => simp [opA] at hj; rw [← hj]; exact c0
    | 1, _ => simp [opA] at hj; rw [← hj]; exact c1
    | 2, _ => simp [opA] at hj; rw [← hj]; exact c2
    | 3, _ => simp [opA] at hj; rw [← hj]; exact c3
  · exact hz _ _ i y0 y1 y2 _ (congrArg Prod.fst hxx) (by rw [List.getElem?_map, List.getElem?_range hi]; simp [c5])
set_option maxRecDepth 20000 in
theorem sback_walk (w : World) (p : Option Addr) (len cap : Nat) (D : Nat → Bool) (N : Nat → Int) (B : Nat → Nat) (S : Nat → ByteArray) (hp : OpQ w p len D N B S) :
    Calls Tryz.prog 4 #[.slice p len cap] w fun e w' => e = .returned (.bool true) ∧ Below w.heap.size w w' := by
  have HAw := hide (fun V => pawake_e V)
  by_cases hlen : len ≤ 40
  · exact sback_core w p len cap D N B S hp hlen
  · have l1 : (40 : Int) < (len : Int) := by omega
    clear hp
    go_enter Tryz.func4, Tryz.ntmps4
    go_wp2_with (first
      | (go_at_call 7; (with_reducible refine Calls.mono (HAw.out _) ?_); rintro e w1 ⟨rfl, hb⟩; have HB1 := hide hb; clear hb))
    go_ret
    exact ⟨rfl, HB1.out⟩
theorem ownT : ownKnob Tryz.prog.godebug = none := by kernel_rfl
theorem laidOutT : laidOutB Tryz.prog = true := by kernel_rfl
set_option maxRecDepth 100000 in
theorem spillBack_lifted (os : Os) (started : os.Started) (H : Type) (enc : TypeId × Value → H) :
    ReturnsInHanded {} Tryz.checked os 4 .any (Rows.spillBackSpec.pre6 enc Tryz.prog Tryz.f4 Rows.spillBackRow.domain false) (Rows.spillBackSpec.post enc Tryz.prog Tryz.f4 false true false false) := by
  refine returnsInHanded_of_change_sized (C := Tryz.checked) ownT started (by kernel_rfl) Tryz.func4
    (ChangeSpec.witness6 (enc := enc) (C := Tryz.checked) false ⟨#[], #[.slice none 0 0], []⟩ 8 (by kernel_rfl) (by kernel_rfl) (by kernel_rfl) (by kernel_rfl)) ?_
  intro W base args ds gs before hval0 hW hcnd hsz0 _
  have hval : ∀ (j : Nat) t v, Tryz.f4.params[j]? = some t → args[j]? = some v → Value.okWide Tryz.prog W .any base t v := hval0
  have hsz : (DataW.weightsEach Tryz.prog (Tryz.f4.params.toList ++ Rows.spillBackSpec.plain.varTypes Tryz.prog) (ds ++ gs)).all (· ≤ reachBytes) = true := hsz0
  have hW' := hW
  obtain ⟨p, q, hA0, hV, rfl, hfz, hnd⟩ := hW
  have hA : DataW.TrodAll enc Tryz.prog W 0 (fun _ => true) true Tryz.f4.params.toList args.toList ds p := hA0
  rw [Tryz.params4] at hA hval hsz
  obtain ⟨v0, vs0, d0, ds0, p0, q0, hargs, rfl, rfl, h0, r0⟩ := trodAll_cons hA
  obtain ⟨rfl, rfl, rfl⟩ := trodAll_nil r0
  obtain rfl : args = #[v0] := by cases args; simp_all
  obtain ⟨rfl, rfl⟩ := trodVars_none hV
  obtain ⟨a0, len0, cap0, rfl⟩ := okWide_slice Tryz.underlying22 (hval 0 22 v0 rfl rfl)
  simp only [List.append_nil] at hW'
  have hlt0 : ∀ x ∈ p0, x.block < W.heap.size := fun x hx => hW'.lt x (by simp [hx])
  have h0k : DataW.Trod enc Tryz.prog W 0 (fun _ => true) true 22 (.slice a0 len0 cap0) d0 p0 := h0
  have hargs0 : ∀ (W' : World), Below W.heap.size W W' → DataW.Trod enc Tryz.prog W' 0 (fun b => decide (b < W.heap.size)) true 22 (.slice a0 len0 cap0) d0 p0 :=
    fun W' hn => Below.trod laidOutT (by kernel_rfl) (of_decide_eq_true (by kernel_rfl)) h0k hn hlt0
  have hz := fun el sp i a b c bs h1 h2 => ops_sized (d0 := d0) hsz rfl rfl el sp i a b c bs h1 h2
  clear hA0 hval0 hsz0 hsz
  obtain ⟨D0, N0, B0, S0, hra0⟩ : ∃ D N B S, OpQ W a0 len0 D N B S := by
    obtain ⟨fuel, hf⟩ := h0
    obtain ⟨p, len, cap, D, N, B, S, hcs, hp⟩ := open_ops11 hf hz
    simp [Value.cells] at hcs
    obtain ⟨rfl, rfl, rfl⟩ := hcs
    exact ⟨D, N, B, S, hp⟩
  refine (sback_walk W a0 len0 cap0 D0 N0 B0 S0 hra0).mono fun e W' ⟨he, bel⟩ => ?_
  subst he
  have hfin : DataW.TrodAll enc Tryz.prog W' 0 (fun b => decide (b < W.heap.size)) true [22] [.slice a0 len0 cap0] [d0] p0 := by
    simpa using (trodAll_cons_mk (hargs0 W' bel) trodAll_mk0)
  exact ⟨_, rfl, _, _, _, [], _, [], hW', trodAll_mk1 (shut_bool Tryz.underlying4 _), hfin, rfl, bel.frame _, fun h => by cases h⟩
end Go.Proofs.YthgclfhfipfknaaGreat

namespace Go.Proofs.YthgclfhfipfknaaGreat
open Go.ChangeShapes Go.WideShapes Go.ChangeAt Go.RowKit Go.Deep
set_option linter.unusedVariables false

set_option maxRecDepth 100000 in
set_option maxHeartbeats 8000000 in
theorem sb_closed : joinedFacts Tryz.prog 4 Tryz.f4 Rows.spillBackSpec Rows.spillBackRow = true := by
  unfold joinedFacts
  repeat' (with_reducible refine Bool.and_eq_true_iff.2 ⟨?_, ?_⟩)
  all_goals (as_aux_lemma => kernel_rfl)
theorem spillBack_holds : Rows.SpillBackSaid :=
  OpenClaim.holds_of_wide 4 Tryz.f4 rfl rfl rfl rfl rfl rfl rfl ⟨rfl, rfl, rfl, rfl, rfl⟩ rfl rfl rfl rfl rfl (by kernel_rfl) Tryz.func4 sb_closed
    (of_decide_eq_true (by kernel_rfl)) (by unfold Func.isWrapper; first | (rw [if_pos (by decide +kernel)]; kernel_rfl) | (rw [if_neg (by decide +kernel)]; exact ⟨rfl, rfl⟩))
    (fun os started H enc _ => spillBack_lifted os started H enc)
#print axioms spillBack_holds
end Go.Proofs.YthgclfhfipfknaaGreat
