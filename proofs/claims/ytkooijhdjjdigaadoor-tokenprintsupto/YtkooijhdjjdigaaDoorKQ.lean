/- The document's Print, of a text and of a blob. -/
import Derived.Test.YtkooijhdjjdigaaDoorKT
import Derived.Test.YtkooijhdjjdigaaDoorCO
namespace Go.Proofs.YtkooijhdjjdigaaDoor
open Go.ChangeShapes Go.WideShapes Go.ChangeAt Go.RowKit
set_option linter.unusedVariables false

abbrev val (k n : Int) (t : ByteArray) : Value := .agg #[.int .i64 k, .int .i64 n, .string t]
theorem new_cells (w : World) (cs : Array Value) (t : TypeId) {W : World} (hW : w.alloc (.cells cs t) = W) (i : Nat) (v : Value) (hv : cs[i]? = some v) : W.cell? ⟨w.heap.size, i, none⟩ = some v := by
  subst hW
  have h : (w.alloc (.cells cs t)).heap[w.heap.size]? = some (.cells cs t) := by
    show (w.heap.push _)[w.heap.size]? = _
    simp
  unfold World.cell?
  simp only [h, hv]
  rfl

theorem res_block (w : World) (a b c : Value) (T : TypeId) {w1 : World} (hb : Below (w.alloc (.cells #[a, b, c] T)).heap.size (w.alloc (.cells #[a, b, c] T)) w1) :
    w1.heap[w.heap.size]? = some (.cells #[a, b, c] T (0, 0)) := by
  rw [hb.block _ (by simp)]
  show (w.heap.push _)[w.heap.size]? = _
  simp
theorem res_facts {w : World} {b : Nat} {x y z : Value} {T : TypeId} (h : w.heap[b]? = some (.cells #[x, y, z] T (0, 0))) :
    w.cell? ⟨b, 0, none⟩ = some x ∧ w.cell? ⟨b, 1, none⟩ = some y ∧ w.cell? ⟨b, 2, none⟩ = some z ∧ w.frozen? ⟨b, 0, none⟩ = false ∧ w.frozen? ⟨b, 1, none⟩ = false ∧ w.frozen? ⟨b, 2, none⟩ = false :=
  ⟨by rw [block_cell h]; rfl, by rw [block_cell h]; rfl, by rw [block_cell h]; rfl, block_frozen h 0, block_frozen h 1, block_frozen h 2⟩
theorem later_block (w : World) (a b c : Value) (T : TypeId) (V : World) (h : Below (w.alloc (.cells #[a, b, c] T)).heap.size (w.alloc (.cells #[a, b, c] T)) V) :
    V.cell? ⟨w.heap.size, 0, none⟩ = some a ∧ V.cell? ⟨w.heap.size, 1, none⟩ = some b ∧ V.cell? ⟨w.heap.size, 2, none⟩ = some c ∧
    (∀ o, (V.alloc o).cell? ⟨w.heap.size, 0, none⟩ = some a) ∧ (∀ o, (V.alloc o).cell? ⟨w.heap.size, 1, none⟩ = some b) ∧ (∀ o, (V.alloc o).cell? ⟨w.heap.size, 2, none⟩ = some c) := by
  obtain ⟨d0, d1, d2, _⟩ := res_facts (res_block w _ _ _ _ h)
  exact ⟨d0, d1, d2, fun o => cell_later (new_below V o rfl) d0, fun o => cell_later (new_below V o rfl) d1, fun o => cell_later (new_below V o rfl) d2⟩

theorem rmay_e (k : Int) (hk : k = 2 ∨ k = 3) (t : ByteArray) (ht : t.size ≤ 400) (w : World) : Calls Tryd.prog 78 #[val k 0 t] w fun e w' => e = .returned (.bool true) ∧ Below w.heap.size w w' := by
  have h4 : (t.size : Int) ≤ 400 := by omega
  rcases hk with rfl | rfl
  all_goals
    go_enter Tryd.func78, Tryd.ntmps78
    go_wp2
    go_ret
    exact ⟨rfl, (Below.refl _ _).alloc (Nat.le_refl _) _⟩
theorem rdigit_e (a : Nat) (ha : a < 16) (w : World) : Calls Tryd.prog 80 #[.int .u8 (a : Int)] w fun e w' => e = .returned (.int .u8 ((hexd a).toNat : Int)) ∧ w = w' := by
  have h1 : (a : Int) < 16 := by omega
  by_cases h : a < 10
  · have h2 : (a : Int) < 10 := by omega
    go_enter Tryd.func80, Tryd.ntmps80
    go_wp2
    go_ret
    refine ⟨?_, rfl⟩
    have : (hexd a).toNat = 48 + a := by simp [hexd, h]; omega
    simp [this]
  · have h2 : ¬ (a : Int) < 10 := by omega
    go_enter Tryd.func80, Tryd.ntmps80
    go_wp2
    go_ret
    refine ⟨?_, rfl⟩
    have : (hexd a).toNat = 87 + a := by simp [hexd, h]; omega
    simp [this]
    omega
theorem take_size (t : ByteArray) : t.data.toList.take t.size = t.data.toList := List.take_of_length_le (by simp)

theorem take_len (t : ByteArray) (j : Nat) (h : j ≤ t.size) : (t.data.toList.take j).length = j := by
  have : t.data.toList.length = t.size := by simp
  rw [List.length_take]; omega

set_option maxHeartbeats 1000000 in
set_option maxRecDepth 10000 in
theorem rprint2 (t : ByteArray) (ht : t.size ≤ 400) (w : World) : Calls Tryd.prog 60 #[val 2 0 t] w fun e w' => e = .returned (.tuple #[.string ⟨(39 :: (esc t.data.toList ++ [39])).toArray⟩, .int .i64 0]) ∧ Below w.heap.size w w' := by
  have HV : Hid (∀ V, Below (w.alloc (.cells #[.int .i64 2, .int .i64 0, .string t] 93)).heap.size (w.alloc (.cells #[.int .i64 2, .int .i64 0, .string t] 93)) V → _) := later_block w (.int .i64 2) (.int .i64 0) (.string t) 93
  go_enter Tryd.func60, Tryd.ntmps60
  go_wp2_with (first
    | (go_at_call 78; with_reducible refine Calls.mono (rmay_e _ (by decide) _ ht _) ?_; rintro e w1 ⟨rfl, hb1⟩; obtain ⟨d0, d1, d2, d3, d4, d5⟩ := HV.out _ hb1; have HB1 := hide hb1; clear hb1)
    | (at_builtin; refine wp_app (by rfl) _ _ (by rfl) (w.alloc (.cells #[.int .i64 2, .int .i64 0, .string t] 93)).heap.size (.slice none 0 0) [] [39] _ (by rfl) (by rfl) (World.ownsRow_nil _ _ _ _) (by rfl) (by decide) (by decide) HB1.out.size ?_; intro g cap w2 hown2 hbel2 hsz2))
  go_loopw [4, 5] (fun v i wr => ∃ j : Nat, j ≤ t.size ∧ i = .int .i64 j ∧ OwnB wr (w.alloc (.cells #[.int .i64 2, .int .i64 0, .string t] 93)).heap.size v (39 :: esc (t.data.toList.take j)) ∧ Below (w.alloc (.cells #[.int .i64 2, .int .i64 0, .string t] 93)).heap.size (w.alloc (.cells #[.int .i64 2, .int .i64 0, .string t] 93)) wr) (fun _ i _ => t.size - (intOf i).toNat)
  case atStart => exact ⟨0, Nat.zero_le _, rfl, hown2, HB1.out.trans hbel2⟩
  case round =>
    obtain ⟨j, hj, rfl, hown, hbel⟩ := hrel
    obtain ⟨a0, a1, a2, b0, b1, b2⟩ := HV.out _ hbel
    have HB : Hid (Below (w.alloc (.cells #[.int .i64 2, .int .i64 0, .string t] 93)).heap.size (w.alloc (.cells #[.int .i64 2, .int .i64 0, .string t] 93)) wr) := hbel
    have HO : Hid (OwnB wr (w.alloc (.cells #[.int .i64 2, .int .i64 0, .string t] 93)).heap.size u4 (39 :: esc (t.data.toList.take j))) := hown
    have hlen : (39 :: esc (t.data.toList.take j)).length ≤ 1000 := by
      have := esc_length (t.data.toList.take j)
      rw [take_len t j hj] at this
      simp; omega
    have HN : Hid ((39 :: esc (t.data.toList.take j)).length ≤ 1000) := hlen
    have HS : Hid ((w.alloc (.cells #[.int .i64 2, .int .i64 0, .string t] 93)).heap.size ≤ wr.heap.size) := hbel.size
    clear hown hbel hlen d0 d1 d2 d3 d4 d5 hown2 hbel2 hsz2
    by_cases hlt : j < t.size
    · have l1 : (j : Int) < (t.size : Int) := by omega
      have l0 : (0 : Int) ≤ (j : Int) := by omega
      obtain ⟨c, hc⟩ : ∃ c : UInt8, t[j]'hlt = c := ⟨_, rfl⟩
      have hb : ∀ (h : j < t.size), ((t[j]'h).toNat : Int) = (c.toNat : Int) := fun h => by rw [hc]
      have HC : Hid (t[j]'hlt = c) := hc
      clear hc
      by_cases h39 : c = 39
      · subst h39
        have hb : ∀ (h : j < t.size), ((t[j]'h).toNat : Int) = 39 := fun h => by rw [HC.out]; rfl
        go_wp2_with (first
          | (at_builtin; refine wp_app (by rfl) _ _ (by rfl) (w.alloc (.cells #[.int .i64 2, .int .i64 0, .string t] 93)).heap.size _ _ [39] _ (by rfl) (by rfl) hown3 (by rfl) (by decide) (by have := HN.out; simp at this ⊢; omega) hsz3 ?_; intro g4 cap4 w4 hown4 hbel4 hsz4)
          | (at_builtin; refine wp_app (by rfl) _ _ (by rfl) (w.alloc (.cells #[.int .i64 2, .int .i64 0, .string t] 93)).heap.size u4 _ [39] _ (by rfl) (by rfl) HO.out (by rfl) (by decide) (by have := HN.out; simp at this ⊢; omega) HS.out ?_; intro g3 cap3 w3 hown3 hbel3 hsz3))
        go_roundw
        case rel =>
          refine ⟨j + 1, by omega, by simp, ?_, (HB.out.trans hbel3).trans hbel4⟩
          rw [take_next t j hlt, esc_snoc, HC.out, if_pos rfl]
          simpa using hown4
        case measure => simp [intOf]; omega
      · have hn : ((c.toNat : Int) == 39) = false := by
          simp
          intro e
          exact h39 (UInt8.toNat_inj.1 (by simpa using Int.ofNat_inj.1 e))
        go_wp2_with (first
          | (at_builtin; refine wp_app (by rfl) _ _ (by rfl) (w.alloc (.cells #[.int .i64 2, .int .i64 0, .string t] 93)).heap.size u4 _ [c] _ (by rfl) (by rfl) HO.out (by rfl) (by simp) (by have := HN.out; simp at this ⊢; omega) HS.out ?_; intro g3 cap3 w3 hown3 hbel3 hsz3))
        go_roundw
        case rel =>
          refine ⟨j + 1, by omega, by simp, ?_, HB.out.trans hbel3⟩
          rw [take_next t j hlt, esc_snoc, HC.out, if_neg h39]
          simpa using hown3
        case measure => simp [intOf]; omega
    · have hjt : j = t.size := by omega
      subst hjt
      have l1 : ¬ ((t.size : Int) < (t.size : Int)) := by omega
      have HO' : Hid (OwnB wr (w.alloc (.cells #[.int .i64 2, .int .i64 0, .string t] 93)).heap.size u4 (39 :: esc t.data.toList)) := (show OwnB wr (w.alloc (.cells #[.int .i64 2, .int .i64 0, .string t] 93)).heap.size u4 (39 :: esc t.data.toList) by have := HO.out; rw [take_size] at this; exact this)
      go_upto_region 22 with (first
        | (at_builtin; refine wp_app (by rfl) _ _ (by rfl) (w.alloc (.cells #[.int .i64 2, .int .i64 0, .string t] 93)).heap.size u4 _ [39] _ (by rfl) (by rfl) HO'.out (by rfl) (by decide) (by have := HN.out; rw [take_size] at this; simp at this ⊢; omega) HS.out ?_; intro g3 cap3 w3 hown3 hbel3 hsz3))
      have hcv : (convert 62 9 (.slice (some ⟨g3, 0, none⟩) ((esc t.data.toList).length + 1 + 1) cap3)).run Tryd.prog w3 = .ok (.string ⟨(39 :: (esc t.data.toList ++ [39])).toArray⟩) w3 := conv_own hown3
      have HF : Hid (Below w.heap.size w w3) := below_trans (new_below w _ rfl) (HB.out.trans hbel3)
      clear hown3 hbel3
      go_wp2
      go_ret2
      exact ⟨rfl, HF.out⟩
set_option maxHeartbeats 1000000 in
set_option maxRecDepth 10000 in
theorem rprint3 (t : ByteArray) (ht : t.size ≤ 400) (w : World) : Calls Tryd.prog 60 #[val 3 0 t] w fun e w' => e = .returned (.tuple #[.string ⟨(120 :: 39 :: (hexs t.data.toList ++ [39])).toArray⟩, .int .i64 0]) ∧ Below w.heap.size w w' := by
  have HV : Hid (∀ V, Below (w.alloc (.cells #[.int .i64 3, .int .i64 0, .string t] 93)).heap.size (w.alloc (.cells #[.int .i64 3, .int .i64 0, .string t] 93)) V → _) := later_block w (.int .i64 3) (.int .i64 0) (.string t) 93
  obtain ⟨i0, hi0, hz0, hz1, hz2⟩ := info_parts info5'
  go_enter Tryd.func60, Tryd.ntmps60
  go_wp2_with (first
    | (go_at_call 78; with_reducible refine Calls.mono (rmay_e _ (by decide) _ ht _) ?_; rintro e w1 ⟨rfl, hb1⟩; obtain ⟨d0, d1, d2, d3, d4, d5⟩ := HV.out _ hb1; have HB1 := hide hb1; clear hb1)
    | (at_builtin; refine wp_app (by rfl) _ _ (by rfl) (w.alloc (.cells #[.int .i64 3, .int .i64 0, .string t] 93)).heap.size _ _ [39] _ (by rfl) (by rfl) hown2 (by rfl) (by decide) (by decide) hsz2 ?_; intro g3 cap3 w3 hown3 hbel3 hsz3)
    | (at_builtin; refine wp_app (by rfl) _ _ (by rfl) (w.alloc (.cells #[.int .i64 3, .int .i64 0, .string t] 93)).heap.size (.slice none 0 0) [] [120] _ (by rfl) (by rfl) (World.ownsRow_nil _ _ _ _) (by rfl) (by decide) (by decide) HB1.out.size ?_; intro g cap w2 hown2 hbel2 hsz2))
  go_loopw [4, 5] (fun v i wr => ∃ j : Nat, j ≤ t.size ∧ i = .int .i64 j ∧ OwnB wr (w.alloc (.cells #[.int .i64 3, .int .i64 0, .string t] 93)).heap.size v (120 :: 39 :: hexs (t.data.toList.take j)) ∧ Below (w.alloc (.cells #[.int .i64 3, .int .i64 0, .string t] 93)).heap.size (w.alloc (.cells #[.int .i64 3, .int .i64 0, .string t] 93)) wr) (fun _ i _ => t.size - (intOf i).toNat)
  case atStart => exact ⟨0, Nat.zero_le _, rfl, hown3, (HB1.out.trans hbel2).trans hbel3⟩
  case round =>
    obtain ⟨j, hj, rfl, hown, hbel⟩ := hrel
    obtain ⟨a0, a1, a2, b0, b1, b2⟩ := HV.out _ hbel
    have HB : Hid (Below (w.alloc (.cells #[.int .i64 3, .int .i64 0, .string t] 93)).heap.size (w.alloc (.cells #[.int .i64 3, .int .i64 0, .string t] 93)) wr) := hbel
    have HO : Hid (OwnB wr (w.alloc (.cells #[.int .i64 3, .int .i64 0, .string t] 93)).heap.size u4 (120 :: 39 :: hexs (t.data.toList.take j))) := hown
    have hlen : (120 :: 39 :: hexs (t.data.toList.take j)).length ≤ 1000 := by
      have := hexs_length (t.data.toList.take j)
      rw [take_len t j hj] at this
      simp; omega
    have HN : Hid ((120 :: 39 :: hexs (t.data.toList.take j)).length ≤ 1000) := hlen
    have HS : Hid ((w.alloc (.cells #[.int .i64 3, .int .i64 0, .string t] 93)).heap.size ≤ wr.heap.size) := hbel.size
    clear hown hbel d0 d1 d2 d3 d4 d5 hown2 hbel2 hsz2 hown3 hbel3 hsz3
    by_cases hlt : j < t.size
    · have l1 : (j : Int) < (t.size : Int) := by omega
      have l0 : (0 : Int) ≤ (j : Int) := by omega
      obtain ⟨q, hq⟩ : ∃ q : Nat, (t[j]'hlt).toNat = q := ⟨_, rfl⟩
      have hq256 : q < 256 := by rw [← hq]; exact UInt8.toNat_lt _
      have hb : ∀ (h : j < t.size), ((t[j]'h).toNat : Int) = (q : Int) := fun h => by rw [hq]
      have q0 : (0 : Int) ≤ (q : Int) := by omega
      have q1 : (q : Int) < 256 := by omega
      obtain ⟨a, ha⟩ : ∃ a : Nat, q / 16 = a := ⟨_, rfl⟩
      obtain ⟨b, hbb⟩ : ∃ b : Nat, q % 16 = b := ⟨_, rfl⟩
      have hA : (q : Int) / 16 = (a : Int) := by omega
      have hA2 : (q : Int).tdiv 16 = (a : Int) := by rw [Int.tdiv_eq_ediv_of_nonneg (by omega)]; omega
      have hB : (q : Int) % 16 = (b : Int) := by omega
      have hB2 : (q : Int).tmod 16 = (b : Int) := by rw [Int.tmod_eq_emod_of_nonneg (by omega)]; omega
      have ha16 : a < 16 := by omega
      have hb16 : b < 16 := by omega
      obtain ⟨x, hx⟩ : ∃ x : UInt8, hexd a = x := ⟨_, rfl⟩
      obtain ⟨y, hy⟩ : ∃ y : UInt8, hexd b = y := ⟨_, rfl⟩
      have HDa : Hid (∀ V, Calls Tryd.prog 80 #[.int .u8 (a : Int)] V fun e w' => e = .returned (.int .u8 (x.toNat : Int)) ∧ V = w') := fun V => by rw [← hx]; exact rdigit_e a ha16 V
      have HDb : Hid (∀ V, Calls Tryd.prog 80 #[.int .u8 (b : Int)] V fun e w' => e = .returned (.int .u8 (y.toNat : Int)) ∧ V = w') := fun V => by rw [← hy]; exact rdigit_e b hb16 V
      have HQ : Hid ((t[j]'hlt).toNat = q) := hq
      have HAA : Hid (q / 16 = a ∧ q % 16 = b ∧ hexd a = x ∧ hexd b = y) := ⟨ha, hbb, hx, hy⟩
      clear hq ha hbb hx hy hlen
      go_wp2_with (first
        | (go_at_call 80; with_reducible refine Calls.mono (HDa.out _) ?_; rintro e w5 ⟨rfl, rfl⟩)
        | (go_at_call 80; with_reducible refine Calls.mono (HDb.out _) ?_; rintro e w5 ⟨rfl, rfl⟩)
        | (at_builtin; refine wp_app (by rfl) _ _ (by rfl) (w.alloc (.cells #[.int .i64 3, .int .i64 0, .string t] 93)).heap.size u4 _ [x, y] _ (by rfl) (by rfl) HO.out (by rfl) (by simp) (by have := HN.out; simp at this ⊢; omega) HS.out ?_; intro g4 cap4 w4 hown4 hbel4 hsz4))
      go_roundw
      case rel =>
        obtain ⟨e1, e2, e3, e4⟩ := HAA.out
        refine ⟨j + 1, by omega, by simp, ?_, HB.out.trans hbel4⟩
        rw [take_next t j hlt, hexs_snoc, HQ.out, e1, e2, e3, e4]
        simpa using hown4
      case measure => simp [intOf]; omega
    · have hjt : j = t.size := by omega
      subst hjt
      have l1 : ¬ ((t.size : Int) < (t.size : Int)) := by omega
      have HO' : Hid (OwnB wr (w.alloc (.cells #[.int .i64 3, .int .i64 0, .string t] 93)).heap.size u4 (120 :: 39 :: hexs t.data.toList)) := (show OwnB wr (w.alloc (.cells #[.int .i64 3, .int .i64 0, .string t] 93)).heap.size u4 (120 :: 39 :: hexs t.data.toList) by have := HO.out; rw [take_size] at this; exact this)
      go_upto_region 22 with (first
        | (at_builtin; refine wp_app (by rfl) _ _ (by rfl) (w.alloc (.cells #[.int .i64 3, .int .i64 0, .string t] 93)).heap.size u4 _ [39] _ (by rfl) (by rfl) HO'.out (by rfl) (by decide) (by have := HN.out; rw [take_size] at this; simp at this ⊢; omega) HS.out ?_; intro g4 cap4 w4 hown4 hbel4 hsz4))
      have hcv : (convert 62 9 (.slice (some ⟨g4, 0, none⟩) ((hexs t.data.toList).length + 1 + 1 + 1) cap4)).run Tryd.prog w4 = .ok (.string ⟨(120 :: 39 :: (hexs t.data.toList ++ [39])).toArray⟩) w4 := conv_own hown4
      have HF : Hid (Below w.heap.size w w4) := below_trans (new_below w _ rfl) (HB.out.trans hbel4)
      clear hown4 hbel4
      go_wp2
      go_ret2
      exact ⟨rfl, HF.out⟩
end Go.Proofs.YtkooijhdjjdigaaDoor
