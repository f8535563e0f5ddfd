/- A file of a disk, copied. -/
import Derived.Test.YtefcconbpomedaaW6
namespace Go.Proofs.Ytefcconbpomedaa
open Go.ChangeShapes Go.WideShapes Go.ChangeAt Go.RowKit
set_option linter.unusedVariables false

theorem ownsRow_raise {w : World} {base base' : Nat} {e : TypeId} {size : Nat} {v : Value} {n : Nat} {xs : List Value} (h : w.ownsRow base e size v n xs) (hv : ∀ g, v.ownBlock = some g → base' ≤ g) : w.ownsRow base' e size v n xs := by
  refine ⟨h.1, ?_⟩
  rcases h.2 with h2 | ⟨g, cap, cur, rfl, hb, hr⟩
  · exact .inl h2
  · exact .inr ⟨g, cap, cur, rfl, hv g (by simp [Value.ownBlock]), hr⟩

theorem Blk.trans' {w w' : World} {b : Nat} {c : Array Value} {t : TypeId} (h : Blk w b c t) (hg : w.grownBy w' none) : Blk w' b c t := (hg.block b h.lt (by simp)).trans h

set_option maxHeartbeats 1000000 in
set_option maxRecDepth 10000 in
theorem clone_entry (w : World) (base eb : Nat) (sv kv : Value) (seen kept : List UInt8) (hb : Blk w eb #[sv, kv] 78) (hs : Own w base sv seen) (hk : Own w base kv kept) (l1 : seen.length ≤ 1048576) (l2 : kept.length ≤ 1048576) (hbase : base ≤ w.heap.size) :
    Calls Try.prog 44 #[.pointer (some ⟨eb, 0, none⟩)] w fun e w' => ∃ sv' kv', e = .returned (.pointer (some ⟨w.heap.size, 0, none⟩)) ∧ Blk w' w.heap.size #[sv', kv'] 78 ∧ Own w' base sv' seen ∧ Own w' base kv' kept ∧
      (∀ g, sv'.ownBlock = some g → w.heap.size < g) ∧ (∀ g, kv'.ownBlock = some g → w.heap.size < g ∧ sv'.ownBlock ≠ some g) ∧ w.grownBy w' none := by
  obtain ⟨a, c, rfl⟩ := ownsRow_form hs
  obtain ⟨a2, c2, rfl⟩ := ownsRow_form hk
  have hn : Blk (w.alloc (.cells #[.slice none 0 0, .slice none 0 0] 78)) w.heap.size #[.slice none 0 0, .slice none 0 0] 78 := alloc_new _ _
  have hg0 := World.grownBy_alloc w (.cells #[.slice none 0 0, .slice none 0 0] 78) none
  have hne : eb ≠ w.heap.size := by have := hb.lt; omega
  have hb0 : Blk (w.alloc (.cells #[.slice none 0 0, .slice none 0 0] 78)) eb #[.slice a seen.length c, .slice a2 kept.length c2] 78 := (hg0.block _ hb.lt (by simp)).trans hb
  have h0 := hb0.cell 0
  simp at h0
  have HC1 := hide (clone_any _ base _ seen (ownsRow_only hs (Only.of_grown hg0) (fun g hg => by simp)) l1 (Nat.le_trans hbase hg0.size))
  have HB0 := hide hb0
  have HN := hide hn
  have HW : Hid (∀ w1 a1 c1, (w.alloc (.cells #[.slice none 0 0, .slice none 0 0] 78)).grownBy w1 none → (∃ v, w1.cell? ⟨w.heap.size, 0, none⟩ = some v) ∧ w1.frozen? ⟨w.heap.size, 0, none⟩ = false ∧ Blk (w1.setCell ⟨w.heap.size, 0, none⟩ (.slice a1 seen.length c1)) w.heap.size #[.slice a1 seen.length c1, .slice none 0 0] 78 ∧
      (w1.setCell ⟨w.heap.size, 0, none⟩ (.slice a1 seen.length c1)).cell? ⟨eb, 1, none⟩ = some (.slice a2 kept.length c2)) := fun w1 a1 c1 h1 => by
    have n1 : Blk w1 w.heap.size #[.slice none 0 0, .slice none 0 0] 78 := (h1.block _ hn.lt (by simp)).trans hn
    have b1 : Blk w1 eb #[.slice a seen.length c, .slice a2 kept.length c2] 78 := (h1.block _ hb0.lt (by simp)).trans hb0
    have b2 : Blk (w1.setCell ⟨w.heap.size, 0, none⟩ (.slice a1 seen.length c1)) eb #[.slice a seen.length c, .slice a2 kept.length c2] 78 := (Below.heap_setCell _ ⟨w.heap.size, 0, none⟩ _ eb (fun e => hne e)).trans b1
    exact ⟨⟨_, (n1.cell 0).trans rfl⟩, n1.frozen 0, n1.set 0 _, (b2.cell 1).trans rfl⟩
  have HK : Hid (∀ w1 a1 c1, (w.alloc (.cells #[.slice none 0 0, .slice none 0 0] 78)).grownBy w1 none → Calls Try.prog 41 #[.slice a2 kept.length c2] (w1.setCell ⟨w.heap.size, 0, none⟩ (.slice a1 seen.length c1)) fun e w' => ∃ v', e = .returned v' ∧ Own w' base v' kept ∧ (∀ g, v'.ownBlock = some g → w1.heap.size ≤ g) ∧ (w1.setCell ⟨w.heap.size, 0, none⟩ (.slice a1 seen.length c1)).grownBy w' none) := fun w1 a1 c1 h1 => by
    have hO : Only [w.heap.size] w (w1.setCell ⟨w.heap.size, 0, none⟩ (.slice a1 seen.length c1)) := (((Only.of_grown hg0).mono (by simp)).trans ((Only.of_grown h1).mono (by simp))).trans (Only.setCell w1 ⟨w.heap.size, 0, none⟩ _)
    have := clone_any _ base _ kept (ownsRow_only hk hO (fun g hg => by have := (own_lt hk g hg).2; simp; omega)) l2 (Nat.le_trans hbase hO.size)
    refine this.mono ?_
    rintro e w' ⟨v', h1, h2, h3, h4⟩
    exact ⟨v', h1, h2, fun g hg => by simpa using h3 g hg, h4⟩
  have HG0 := hide hg0
  have Hne := hide hne
  clear hb hs hk hn hg0 hb0 hne
  go_enter Try.func44, Try.ntmps44
  go_wp2_with (first
    | (go_at_call 41; with_reducible refine Calls.mono HC1.out ?_; rintro e w1 ⟨v1, rfl, ho1, hf1, hg1⟩; obtain ⟨a1, c1, rfl⟩ := ownsRow_form ho1; have HO1 := hide ho1; have HF1 := hide hf1; have HG1 := hide hg1; obtain ⟨⟨x1, q1⟩, q2, q3, q4⟩ := HW.out w1 a1 c1 hg1; have Q3 := hide q3; clear ho1 hf1 hg1 q3)
    | (go_at_call 41; with_reducible refine Calls.mono (HK.out w1 a1 c1 HG1.out) ?_; rintro e w2 ⟨v2, rfl, ho2, hf2, hg2⟩; obtain ⟨a3, c3, rfl⟩ := ownsRow_form ho2; have HO2 := hide ho2; have HF2 := hide hf2; have HG2 := hide hg2; have n2 := Q3.out.trans' hg2; have r1 := n2.cell 1; have r2 := n2.frozen 1; simp at r1; have N2 := hide n2; clear ho2 hf2 hg2 n2))
  go_ret
  have hw1 : w.heap.size < w1.heap.size := Nat.lt_of_lt_of_le (by simp) HG1.out.size
  have hs1 : ∀ g, (Value.slice a1 seen.length c1).ownBlock = some g → w.heap.size < g := fun g hg => by have := HF1.out g hg; simp at this; omega
  have hO3 : Only [w.heap.size] w1 (w2.setCell ⟨w.heap.size, 1, none⟩ (.slice a3 kept.length c3)) := ((Only.setCell w1 ⟨w.heap.size, 0, none⟩ _).trans ((Only.of_grown HG2.out).mono (by simp))).trans (Only.setCell w2 ⟨w.heap.size, 1, none⟩ _)
  refine ⟨_, _, rfl, N2.out.set 1 _, ownsRow_only HO1.out hO3 (fun g hg => by have := hs1 g hg; simp; omega), ownsRow_only HO2.out (Only.setCell w2 ⟨w.heap.size, 1, none⟩ _) (fun g hg => by have := HF2.out g hg; simp; omega), hs1, fun g hg => ⟨by have := HF2.out g hg; omega, fun e => by have h1 := HF2.out g hg; have h2 := (own_lt HO1.out g e).2; omega⟩, ?_⟩
  have hO4 : Only [w.heap.size] w (w2.setCell ⟨w.heap.size, 1, none⟩ (.slice a3 kept.length c3)) := (((Only.of_grown HG0.out).mono (by simp)).trans ((Only.of_grown HG1.out).mono (by simp))).trans hO3
  exact ⟨hO4.os, hO4.tape, hO4.output, hO4.size, fun k hk _ => hO4.block k hk (by simp; omega)⟩
end Go.Proofs.Ytefcconbpomedaa
