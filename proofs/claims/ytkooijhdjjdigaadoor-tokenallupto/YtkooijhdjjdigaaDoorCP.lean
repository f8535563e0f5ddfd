/- Append within a round: blocks as long as one element stay as they are. -/
import Derived.Test.YtkooijhdjjdigaaDoorCLb
namespace Go.Proofs.YtkooijhdjjdigaaDoor
open Go.ChangeShapes Go.WideShapes Go.ChangeAt Go.RowKit Go.Shelf
set_option linter.unusedVariables false

variable {F : Fence} {nF : Nat}
theorem app_keeps {w : World} (base t ty e : Nat) (i : TypeInfo) (z : Value) (size bytes : Nat) (ht : Tryd.prog.underlying t = some (.slice e)) (hi : Tryd.prog.info? e = some i) (hz : i.zero = some z)
    (hsize : i.size = size) (hby : i.bytes = bytes) (hsz : 0 < size) (v : Value) (n : Nat) (xs : List Value) (hown : w.ownsRow base e size v n xs) (hn : v = .slice none 0 0 ∨ 1 ≤ n)
    (a : Addr) (c : Nat) (news : List Value) (hl : news.length = 1 * size) (hnews : ∀ j u, news[j]? = some u → w.cell? (a.add j) = some u)
    (h63 : n + 1 ≤ maxLen) (hbytes : (n + 1) * bytes ≤ 140737488355328) (v' : Value) (w' : World) (hg : w.grownBy w' v.ownBlock)
    (hr : (Builtin.append_ #[t, t] ty #[v, .slice (some a) 1 c]).run Tryd.prog w = .ok v' w') :
    ∀ (k : Nat) (q : Array Value), w.heap[k]? = some (.cells q e (0, 0)) → q.size = size → w'.heap[k]? = some (.cells q e (0, 0)) := by
  intro k q hq hqs
  have hk : k < w.heap.size := (Array.getElem?_eq_some_iff.1 hq).1
  rcases hown.2 with ⟨rfl, rfl⟩ | ⟨g, cap, cur, rfl, hbg, hgc, hnc, hcm, hcs, htake⟩
  · exact (hg.block k hk (by simp [Value.ownBlock])).trans hq
  · by_cases hkg : k = g
    · subst hkg
      have hcur : q = cur := by
        have := Option.some.inj (hq.symm.trans hgc)
        simp only [Obj.cells.injEq] at this
        exact this.1
      subst hcur
      have hn1 : 1 ≤ n := hn.resolve_left (fun h => by cases h)
      have hcap : cap < n + 1 := by
        rcases Nat.lt_or_ge cap 2 with h | h
        · omega
        · exfalso
          have : 2 * size ≤ cap * size := Nat.mul_le_mul_right _ h
          omega
      subst hsize
      have hr2 := run_append_grow (P := Tryd.prog) w t ty e i z ht hi hz ⟨k, 0, none⟩ n cap xs hown.1 (hown.cells (g := k) rfl) a 1 c news hl hnews hcap (by simp only [maxLen] at h63; omega) (growslice_fits (by omega) (by rw [hby]; exact hbytes))
      have h2 := hr.symm.trans hr2
      simp only [Result.ok.injEq] at h2
      rw [h2.2]
      exact (Below.heap_alloc w.drew _ _ hk).trans hq
    · exact (hg.block k hk (by simp [Value.ownBlock]; exact hkg)).trans hq
theorem wpListIn_appK {w : World} {ops : Array Oper} {rest : List Oper} {o : Oper} {a : Act} {Q : Exit → Act → World → Prop} (hgd : o.guard = none) (s x : Operand) (t : TypeId)
    (ho : o.op = .call { callee := .builtin .append, args := #[s, x], argTypes := #[t, t] })
    (base e : Nat) (i : TypeInfo) (z : Value) (size bytes : Nat) (ht : Tryd.prog.underlying t = some (.slice e)) (hi : Tryd.prog.info? e = some i) (hz : i.zero = some z)
    (hsize : i.size = size) (hby : i.bytes = bytes) (hzs : z.cells.size = size) (hsz : 0 < size) (v : Value) (n : Nat) (xs : List Value) (hs : a.eval s = v) (hown : w.ownsRow base e size v n xs) (hn : v = .slice none 0 0 ∨ 1 ≤ n)
    (ad : Addr) (c : Nat) (news : List Value) (hx : a.eval x = .slice (some ad) 1 c) (hl : news.length = 1 * size) (hnews : ∀ j u, news[j]? = some u → w.cell? (ad.add j) = some u) (h1 : ∀ u ∈ news, u.oneCell' = true)
    (h63 : n + 1 ≤ maxLen) (hbytes : (n + 1) * bytes ≤ 140737488355328) (hbase : base ≤ w.heap.size)
    (h : ∀ v' w', w'.ownsRow base e size v' (n + 1) (xs ++ news) → w.grownBy w' v.ownBlock →
      (∀ (k : Nat) (q : Array Value), w.heap[k]? = some (.cells q e (0, 0)) → q.size = size → w'.heap[k]? = some (.cells q e (0, 0))) → wpListIn F nF Tryd.prog ops Q rest (a.put o.dst v') w') :
    wpListIn F nF Tryd.prog ops Q (o :: rest) a w := by
  refine wpListIn_plain hgd fun K hK => ?_
  obtain ⟨v', w', hr, h2, h3, -, -⟩ := run_append_own_at (P := Tryd.prog) w base t o.type e i z size bytes ht hi hz hsize hby hzs hsz v n xs hown ad 1 c news hl hnews h1 h63 hbytes hbase
  have hk := app_keeps base t o.type e i z size bytes ht hi hz hsize hby hsz v n xs hown hn ad c news hl hnews h63 hbytes v' w' h3 hr
  unfold Oper.wpIn
  refine ⟨by simp [Oper.about, ho, resolve, Target.leads, Sem.run_pure], ?_⟩
  rw [Oper.semAt_plain F _ _ (by rw [ho]; intro c hc'; cases hc')]
  simp [execOp, ho, resolve, invoke, builtin, hs, hx, hr, Result.andThen]
  exact hK _ _ (h v' w' h2 h3 hk)
end Go.Proofs.YtkooijhdjjdigaaDoor
