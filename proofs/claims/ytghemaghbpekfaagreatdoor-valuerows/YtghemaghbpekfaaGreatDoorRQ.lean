/- The document's Print of texts. -/
import Derived.Test.YtghemaghbpekfaaGreatDoorRP
namespace Go.Proofs.YtghemaghbpekfaaGreatDoor
open Go.ChangeShapes Go.WideShapes Go.ChangeAt Go.RowKit
set_option linter.unusedVariables false

theorem later_block (w : World) (a b c : Value) (T : TypeId) (V : World) (h : Below (w.alloc (.cells #[a, b, c] T)).heap.size (w.alloc (.cells #[a, b, c] T)) V) :
    V.cell? ⟨w.heap.size, 0, none⟩ = some a ∧ V.cell? ⟨w.heap.size, 1, none⟩ = some b ∧ V.cell? ⟨w.heap.size, 2, none⟩ = some c ∧
    (∀ o, (V.alloc o).cell? ⟨w.heap.size, 0, none⟩ = some a) ∧ (∀ o, (V.alloc o).cell? ⟨w.heap.size, 1, none⟩ = some b) ∧ (∀ o, (V.alloc o).cell? ⟨w.heap.size, 2, none⟩ = some c) := by
  obtain ⟨d0, d1, d2, _⟩ := res_facts (res_block w _ _ _ _ h)
  exact ⟨d0, d1, d2, fun o => cell_later (new_below V o rfl) d0, fun o => cell_later (new_below V o rfl) d1, fun o => cell_later (new_below V o rfl) d2⟩


theorem digit_walk (a : Nat) (ha : a < 16) (w : World) : Calls Tryz.prog 45 #[.int .u8 (a : Int)] w fun e w' => e = .returned (.int .u8 ((hexd a).toNat : Int)) ∧ w = w' := by
  have h1 : (a : Int) < 16 := by omega
  by_cases h : a < 10
  · have h2 : (a : Int) < 10 := by omega
    go_enter Tryz.func45, Tryz.ntmps45
    go_wp2
    go_ret
    refine ⟨?_, rfl⟩
    have : (hexd a).toNat = 48 + a := by simp [hexd, h]; omega
    simp [this]
  · have h2 : ¬ (a : Int) < 10 := by omega
    go_enter Tryz.func45, Tryz.ntmps45
    go_wp2
    go_ret
    refine ⟨?_, rfl⟩
    have : (hexd a).toNat = 87 + a := by simp [hexd, h]; omega
    simp [this]
    omega

/-- append of some bytes to a row of bytes of one's own. -/
theorem wp_appq {ops : Array Oper} {rest : List Oper} {o : Oper} {a : Act} {Q : Exit → Act → World → Prop} {w : World} (hgd : o.guard = none) (s x : Operand)
    (ho : o.op = .call { callee := .builtin .append, args := #[s, x], argTypes := #[53, 53] }) (base : Nat) (v : Value) (l d : List UInt8) (C : Array Value) (hC : C = (bcs d).toArray)
    (hs : a.eval s = v) (hown : OwnB w base v l) (hx : a.eval x = .slice (some ⟨w.heap.size, 0, none⟩) d.length d.length) (hd : 0 < d.length) (hsz : l.length + d.length ≤ 100000) (hbase : base ≤ w.heap.size)
    (h : ∀ g cap w', OwnB w' base (.slice (some ⟨g, 0, none⟩) (l.length + d.length) cap) (l ++ d) → Below base w w' → base ≤ w'.heap.size → wpList Tryz.prog ops Q rest (a.put o.dst (.slice (some ⟨g, 0, none⟩) (l.length + d.length) cap)) w') :
    wpList Tryz.prog ops Q (o :: rest) a (w.alloc (.cells C 5)) := by
  subst hC
  obtain ⟨i0, hi0, hz0, hz1, hz2⟩ := info_parts info5'
  refine wpList_append_lies _ hgd s x 53 ho base 5 i0 (.int .u8 0) 1 1 Tryz.underlying53 hi0 hz0 hz1 hz2 rfl (by omega) v l.length (bcs l) hs (hown.alloc _) ⟨w.heap.size, 0, none⟩ d.length d.length (bcs d) hx (by simp [length_bcs]) (World.news_of_block (cs := (bcs d).toArray) (t := 5) (fr := (0, 0)) (heap_alloc_new w _)) ?_ hd (by unfold maxLen; omega) (by omega) (by simp; omega) (w.heap.size + 1) (by simp) ?_
  · intro u hu
    simp only [bcs, List.mem_map] at hu
    obtain ⟨b, _, rfl⟩ := hu
    rfl
  · intro g cap w1 hown1 hgrow hat hlt
    have hb : Below base w w1 := below_row ((Below.refl base w).alloc hbase _) (hown.alloc _) (by simp; omega) hgrow
    exact h g cap w1 (own_step hown1 rfl) hb (Nat.le_trans hbase hb.size)

theorem esc_snoc (l : List UInt8) (c : UInt8) : esc (l ++ [c]) = esc l ++ (if c = 39 then [39, 39] else [c]) := by
  induction l with
  | nil => simp only [List.nil_append, esc]
  | cons a r ih => simp only [List.cons_append, esc, ih]; split <;> simp

theorem take_size (t : ByteArray) : t.data.toList.take t.size = t.data.toList := List.take_of_length_le (by simp)

theorem take_len (t : ByteArray) (j : Nat) (h : j ≤ t.size) : (t.data.toList.take j).length = j := by
  have : t.data.toList.length = t.size := by simp
  rw [List.length_take]; omega

set_option maxHeartbeats 1000000 in
set_option maxRecDepth 10000 in
theorem rprint2 (t : ByteArray) (ht : t.size ≤ 400) (w : World) : Calls Tryz.prog 30 #[val 2 0 t] w fun e w' => e = .returned (.tuple #[.string ⟨(39 :: (esc t.data.toList ++ [39])).toArray⟩, .int .i64 0]) ∧ Below w.heap.size w w' := by
  have hmB : mayB 2 0 t = true := by rw [may2]; simp [ht]
  have HV : Hid (∀ V, Below (w.alloc (.cells #[.int .i64 2, .int .i64 0, .string t] 24)).heap.size (w.alloc (.cells #[.int .i64 2, .int .i64 0, .string t] 24)) V → _) := later_block w (.int .i64 2) (.int .i64 0) (.string t) 24
  go_enter Tryz.func30, Tryz.ntmps30
  go_wp2_with (first
    | (go_at_call 20; with_reducible refine Calls.mono (rmay_walk _ _ _ _) ?_; rintro e w1 ⟨rfl, hb1⟩; obtain ⟨d0, d1, d2, d3, d4, d5⟩ := HV.out _ hb1; have HB1 := hide hb1; clear hb1)
    | (at_builtin; refine wp_appq (by rfl) _ _ (by rfl) (w.alloc (.cells #[.int .i64 2, .int .i64 0, .string t] 24)).heap.size (.slice none 0 0) [] [39] _ (by rfl) (by rfl) (World.ownsRow_nil _ _ _ _) (by rfl) (by decide) (by decide) HB1.out.size ?_; intro g cap w2 hown2 hbel2 hsz2))
  go_loopw [4, 5] (fun v i wr => ∃ j : Nat, j ≤ t.size ∧ i = .int .i64 j ∧ OwnB wr (w.alloc (.cells #[.int .i64 2, .int .i64 0, .string t] 24)).heap.size v (39 :: esc (t.data.toList.take j)) ∧ Below (w.alloc (.cells #[.int .i64 2, .int .i64 0, .string t] 24)).heap.size (w.alloc (.cells #[.int .i64 2, .int .i64 0, .string t] 24)) wr) (fun _ i _ => t.size - (intOf i).toNat)
  case atStart => exact ⟨0, Nat.zero_le _, rfl, hown2, HB1.out.trans hbel2⟩
  case round =>
    obtain ⟨j, hj, rfl, hown, hbel⟩ := hrel
    obtain ⟨a0, a1, a2, b0, b1, b2⟩ := HV.out _ hbel
    have HB : Hid (Below (w.alloc (.cells #[.int .i64 2, .int .i64 0, .string t] 24)).heap.size (w.alloc (.cells #[.int .i64 2, .int .i64 0, .string t] 24)) wr) := hbel
    have HO : Hid (OwnB wr (w.alloc (.cells #[.int .i64 2, .int .i64 0, .string t] 24)).heap.size u4 (39 :: esc (t.data.toList.take j))) := hown
    have hlen : (39 :: esc (t.data.toList.take j)).length ≤ 1000 := by
      have := esc_length (t.data.toList.take j)
      rw [take_len t j hj] at this
      simp; omega
    have HN : Hid ((39 :: esc (t.data.toList.take j)).length ≤ 1000) := hlen
    have HS : Hid ((w.alloc (.cells #[.int .i64 2, .int .i64 0, .string t] 24)).heap.size ≤ wr.heap.size) := hbel.size
    clear hown hbel hlen d0 d1 d2 d3 d4 d5 hown2 hbel2 hsz2
    by_cases hlt : j < t.size
    · have l1 : (j : Int) < (t.size : Int) := by omega
      have l0 : (0 : Int) ≤ (j : Int) := by omega
      obtain ⟨c, hc⟩ : ∃ c : UInt8, t[j]'hlt = c := ⟨_, rfl⟩
      have hb : ∀ (h : j < t.size), ((t[j]'h).toNat : Int) = (c.toNat : Int) := fun h => by rw [hc]
      have HC : Hid (t[j]'hlt = c) := hc
      clear hc
      by_cases h39 : c = 39
      · subst h39
        have hb : ∀ (h : j < t.size), ((t[j]'h).toNat : Int) = 39 := fun h => by rw [HC.out]; rfl
        go_wp2_with (first
          | (at_builtin; refine wp_appq (by rfl) _ _ (by rfl) (w.alloc (.cells #[.int .i64 2, .int .i64 0, .string t] 24)).heap.size _ _ [39] _ (by rfl) (by rfl) hown3 (by rfl) (by decide) (by have := HN.out; simp at this ⊢; omega) hsz3 ?_; intro g4 cap4 w4 hown4 hbel4 hsz4)
          | (at_builtin; refine wp_appq (by rfl) _ _ (by rfl) (w.alloc (.cells #[.int .i64 2, .int .i64 0, .string t] 24)).heap.size u4 _ [39] _ (by rfl) (by rfl) HO.out (by rfl) (by decide) (by have := HN.out; simp at this ⊢; omega) HS.out ?_; intro g3 cap3 w3 hown3 hbel3 hsz3))
        go_roundw
        case rel =>
          refine ⟨j + 1, by omega, by simp, ?_, (HB.out.trans hbel3).trans hbel4⟩
          rw [take_next t j hlt, esc_snoc, HC.out, if_pos rfl]
          simpa using hown4
        case measure => simp [intOf]; omega
      · have hn : ((c.toNat : Int) == 39) = false := by
          simp
          intro e
          exact h39 (UInt8.toNat_inj.1 (by simpa using Int.ofNat_inj.1 e))
        go_wp2_with (first
          | (at_builtin; refine wp_appq (by rfl) _ _ (by rfl) (w.alloc (.cells #[.int .i64 2, .int .i64 0, .string t] 24)).heap.size u4 _ [c] _ (by rfl) (by rfl) HO.out (by rfl) (by simp) (by have := HN.out; simp at this ⊢; omega) HS.out ?_; intro g3 cap3 w3 hown3 hbel3 hsz3))
        go_roundw
        case rel =>
          refine ⟨j + 1, by omega, by simp, ?_, HB.out.trans hbel3⟩
          rw [take_next t j hlt, esc_snoc, HC.out, if_neg h39]
          simpa using hown3
        case measure => simp [intOf]; omega
    · have hjt : j = t.size := by omega
      subst hjt
      have l1 : ¬ ((t.size : Int) < (t.size : Int)) := by omega
      have HO' : Hid (OwnB wr (w.alloc (.cells #[.int .i64 2, .int .i64 0, .string t] 24)).heap.size u4 (39 :: esc t.data.toList)) := (show OwnB wr (w.alloc (.cells #[.int .i64 2, .int .i64 0, .string t] 24)).heap.size u4 (39 :: esc t.data.toList) by have := HO.out; rw [take_size] at this; exact this)
      go_upto_region 22 with (first
        | (at_builtin; refine wp_appq (by rfl) _ _ (by rfl) (w.alloc (.cells #[.int .i64 2, .int .i64 0, .string t] 24)).heap.size u4 _ [39] _ (by rfl) (by rfl) HO'.out (by rfl) (by decide) (by have := HN.out; rw [take_size] at this; simp at this ⊢; omega) HS.out ?_; intro g3 cap3 w3 hown3 hbel3 hsz3))
      have hcv : (convert 53 9 (.slice (some ⟨g3, 0, none⟩) ((esc t.data.toList).length + 1 + 1) cap3)).run Tryz.prog w3 = .ok (.string ⟨(39 :: (esc t.data.toList ++ [39])).toArray⟩) w3 := conv_own hown3
      have HF : Hid (Below w.heap.size w w3) := below_trans (new_below w _ rfl) (HB.out.trans hbel3)
      clear hown3 hbel3
      go_wp2
      go_ret2
      exact ⟨rfl, HF.out⟩
end Go.Proofs.YtghemaghbpekfaaGreatDoor
