/- The law's copy of a row with a mark behind it; whether it is kept. -/
import Derived.Test.YtfjmoiooonialaaED
import Derived.Laws.AppendOwn
namespace Go.Proofs.Ytfjmoiooonialaa
open Go.ChangeShapes Go.WideShapes Go.ChangeAt Go.RowKit
set_option linter.unusedVariables false

/-- Values are appended to a row that is owned. -/
theorem wp_appV {ops : Array Oper} {rest : List Oper} {o : Oper} {a : Act} {Q : Exit → Act → World → Prop} {w : World} {base n : Nat} {v : Value} {xs : List Value} (hown : w.ownsRow base 46 3 v n xs) {ad : Addr} {m c : Nat} {news : List Value}
    (hl : news.length = m * 3) (hnews : ∀ j u, news[j]? = some u → w.cell? (ad.add j) = some u) (h1 : ∀ u ∈ news, u.oneCell' = true) (hn : (n + m) * 32 ≤ 140737488355328) (hbase : base ≤ w.heap.size) (s z : Operand)
    (hgd : o.guard = none) (ho : o.op = .call { callee := .builtin .append, args := #[s, z], argTypes := #[31, 31] }) (hs : a.eval s = v) (hz : a.eval z = .slice (some ad) m c)
    (hk : ∀ v' w', w'.ownsRow base 46 3 v' (n + m) (xs ++ news) → (v' = .slice none 0 0 ↔ v = .slice none 0 0 ∧ m = 0) → (∀ A, Below base A w → Below base A w') → wpList Try.prog ops Q rest (a.put o.dst v') w') : wpList Try.prog ops Q (o :: rest) a w := by
  obtain ⟨i, hi, hz0, hsz, hby⟩ := infoV3
  refine wpList_append_own w hgd s z 31 ho base 46 i _ 3 32 Try.underlying31 hi hz0 hsz hby rfl (by omega) v n xs hs hown ad m c news hz hl hnews h1 (by simp only [maxLen]; omega) hn hbase (fun v' w' h2 h3 h4 => hk v' w' h2 h4 (fun A hA => hA.grown h3 hbase (fun k e => ?_)))
  rcases hown.2 with ⟨rfl, _⟩ | ⟨g, cap, cur, rfl, hbg, _⟩
  · cases e
  · simp only [Value.ownBlock, Option.some.injEq] at e
    omega
theorem rowCell_one {K N : Nat → Int} {T : Nat → ByteArray} {n : Nat} : ∀ u ∈ rowCells n K N T, u.oneCell' = true := by
  intro u hu
  simp only [rowCells, List.mem_map] at hu
  obtain ⟨i, _, rfl⟩ := hu
  unfold rowCell
  split
  · rfl
  · split <;> rfl

/-- The mark. -/
def markL : List Value := [.int .i64 0, .int .i64 77, .string ⟨#[]⟩]
theorem own_mark {w : World} {base n : Nat} {v : Value} {K N : Nat → Int} {T : Nat → ByteArray} (h : w.ownsRow base 46 3 v (n + 1) (rowCells n K N T ++ markL)) :
    ∃ g c, v = .slice (some ⟨g, 0, none⟩) (n + 1) c ∧ n + 1 ≤ c ∧ RowAt w g 0 n K N T ∧ w.cell? ⟨g, n * 3 + 1, none⟩ = some (.int .i64 77) := by
  rcases h.2 with ⟨_, h0⟩ | ⟨g, cap, cur, rfl, hbg, hg, hnc, hcm, hcs, htake⟩
  · omega
  have e : ∀ j, (⟨g, 0, none⟩ : Addr).add j = ⟨g, j, none⟩ := fun j => by unfold Addr.add; split <;> simp_all
  have hc := h.cells (g := g) rfl
  refine ⟨g, cap, rfl, hnc, fun i hi => ?_, ?_⟩
  · have at' : ∀ j, j < n * 3 → w.cell? ⟨g, j, none⟩ = some (rowCell K N T j) := fun j hj => by
      have := hc j _ (by rw [List.getElem?_append_left (by rw [rowCells_length]; exact hj)]; exact rowCells_at hj)
      rwa [e] at this
    refine ⟨?_, ?_, ?_⟩
    · rw [Nat.zero_add, at' _ (by omega), rowCell0]
    · rw [Nat.zero_add, at' _ (by omega), rowCell1]
    · rw [Nat.zero_add, at' _ (by omega), rowCell2]
  · have := hc (n * 3 + 1) (.int .i64 77) (by rw [List.getElem?_append_right (by rw [rowCells_length]; omega), rowCells_length, show n * 3 + 1 - n * 3 = 1 by omega]; rfl)
    rwa [e] at this

theorem mark_cells (w : World) : ∀ j u, markL[j]? = some u → (w.alloc (.cells #[.int .i64 0, .int .i64 77, .string ⟨#[]⟩] 46)).cell? ((⟨w.heap.size, 0, none⟩ : Addr).add j) = some u := by
  intro j u hu
  have e : (⟨w.heap.size, 0, none⟩ : Addr).add j = ⟨w.heap.size, j, none⟩ := by unfold Addr.add; split <;> simp_all
  rw [e, blk_cell (heap_alloc_new w _)]
  simpa [markL] using hu
theorem mark_one : ∀ u ∈ markL, u.oneCell' = true := by
  intro u hu
  simp [markL] at hu
  rcases hu with rfl | rfl | rfl <;> rfl
theorem le_cast {n c : Nat} (h : n + 1 ≤ c) : (n : Int) ≤ (c : Int) := by omega
theorem bl_more {w w1 : World} (h : Below w.heap.size w w1) (o : Obj) : Below w.heap.size w (w1.alloc o) := h.alloc h.size o
theorem own_alloc {w : World} {base e size n : Nat} {v : Value} {xs : List Value} (h : w.ownsRow base e size v n xs) (o : Obj) : (w.alloc o).ownsRow base e size v n xs := h.alloc o

set_option maxHeartbeats 2000000 in
set_option maxRecDepth 10000 in
theorem own_some (b o n cap : Nat) (K N : Nat → Int) (T : Nat → ByteArray) (hn : (n + 1) * 32 ≤ 140737488355328) (w : World) (h : RowAt w b o n K N T) :
    Calls Try.prog 12 #[.slice (some ⟨b, o, none⟩) n cap] w fun e w' => ∃ g c, e = .returned (.slice (some ⟨g, 0, none⟩) n c) ∧ n + 1 ≤ c ∧ RowAt w' g 0 n K N T ∧ w'.cell? ⟨g, n * 3 + 1, none⟩ = some (.int .i64 77) ∧ Below w.heap.size w w' := by
  have HO0 : Hid ((w.alloc (.cells #[] 46)).ownsRow w.heap.size 46 3 (.slice (some ⟨w.heap.size, 0, none⟩) 0 0) 0 []) := World.ownsRow_made w #[] 0 (Nat.le_refl _) (by simp [maxLen]) (by simp)
  have HB0 := hide (new_below w (.cells #[] 46) rfl)
  have HC0 := hide (h.later (new_below w (.cells #[] 46) rfl)).cells
  have HN := hide (show (0 + n) * 32 ≤ 140737488355328 by omega)
  have HN1 := hide hn
  have l0 : (0 : Int) ≤ (n : Int) := by omega
  clear h hn
  go_enter Try.func12, Try.ntmps12
  go_wp2_with (first
    | (at_builtin; refine wp_appV HO0.out (rowCells_length) HC0.out rowCell_one HN.out HB0.out.size _ _ (by rfl) (by rfl) (by rfl) (by rfl) ?_; intro v1 w1 ho hiff hk; rw [Nat.zero_add, List.nil_append] at ho; have HB1 := hide (hk _ HB0.out); have HO1 := hide ho; clear ho hk hiff HC0 HO0 HB0 HN)
    | (at_builtin; refine wp_appV (own_alloc HO1.out _) (m := 1) (news := markL) rfl (mark_cells w1) mark_one HN1.out (bl_more HB1.out _).size _ _ (by rfl) (by rfl) (by rfl) (by rfl) ?_; intro v2 w2 ho hiff hk; have HB2 := hide (hk _ (bl_more HB1.out _)); obtain ⟨g, c, rfl, hc, hr, hm⟩ := own_mark ho; have HR2 := hide hr; have HM2 := hide hm; have l1 := le_cast hc; have HL := hide hc; clear ho hk hiff hr hm hc))
  go_ret
  exact ⟨g, c, rfl, HL.out, HR2.out, HM2.out, HB2.out⟩
end Go.Proofs.Ytfjmoiooonialaa
