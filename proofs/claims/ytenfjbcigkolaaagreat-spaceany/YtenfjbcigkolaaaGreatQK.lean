/- SpaceOnce: what lies in memory. -/
/- SpaceOnce: which pages are held, which are given back, in plain words. -/
/- Rows of numbers and of pages that came in as arguments. -/
/- SpaceOnce: the walk. -/
import Derived.Test.YtenfjbcigkolaaaGreatQH
import Derived.Maps.AppendAt
import Derived.WalkSmall
import Derived.Laws.OwnMore
import Derived.Test.YtenfjbcigkolaaaGreatTJ
import Derived.Test.YtenfjbcigkolaaaGreatRows
import Derived.SizedLaws
import Derived.Deep.Slices
import Derived.Carry
import Derived.Test.YtenfjbcigkolaaaGreatSM
namespace Go.Proofs.YtenfjbcigkolaaaGreat
open Go.ChangeShapes Go.WideShapes Go.ChangeAt Go.RowKit Go.Maps
set_option linter.unusedVariables false

/-- A transaction, and two rows of numbers: those held, those given back. -/
structure SO (w wr : World) (base t pm n K L : Nat) (P : Nat → List UInt8) (hv gv : Value) (H G : List Nat) : Prop where
  bel : Below w.heap.size w wr
  ld : Ld wr t pm n P K L zN
  oh : wr.ownsRow base 3 1 hv H.length (inL H)
  og : wr.ownsRow base 3 1 gv G.length (inL G)
  ap : hv.ownBlock = none ∨ hv.ownBlock ≠ gv.ownBlock
  tb : w.heap.size ≤ t ∧ t < base
  pb : w.heap.size ≤ pm ∧ pm < base
  bs : base ≤ wr.heap.size
theorem SO.later {w wr w' : World} {base t pm n K L : Nat} {P : Nat → List UInt8} {hv gv : Value} {H G : List Nat} (h : SO w wr base t pm n K L P hv gv H G) (hb : Below wr.heap.size wr w') : SO w w' base t pm n K L P hv gv H G :=
  ⟨below_trans h.bel hb, h.ld.later hb, own_only h.oh (Only.of_below (S := []) hb) (by simp), own_only h.og (Only.of_below (S := []) hb) (by simp), h.ap, h.tb, h.pb, Nat.le_trans h.bs hb.size⟩
theorem SO.tx {w wr w' : World} {base t pm n K L n' K' L' : Nat} {P P' : Nat → List UInt8} {hv gv : Value} {H G : List Nat} (h : SO w wr base t pm n K L P hv gv H G) (ho : Only [t, pm] wr w') (hl : Ld w' t pm n' P' K' L' zN) : SO w w' base t pm n' K' L' P' hv gv H G :=
  ⟨below_only h.bel ho (two_in h.tb.1 h.pb.1), hl, own_only h.oh ho (fun k hk => by have := h.tb.2; have := h.pb.2; simp at hk; omega), own_only h.og ho (fun k hk => by have := h.tb.2; have := h.pb.2; simp at hk; omega), h.ap, h.tb, h.pb, Nat.le_trans h.bs ho.size⟩
theorem own_blk {w : World} {base n : Nat} {v : Value} {xs : List Value} (h : w.ownsRow base 3 1 v n xs) {g : Nat} (hg : v.ownBlock = some g) : base ≤ g ∧ ∃ c, Blk w g c 3 := by
  rcases h.2 with ⟨rfl, _⟩ | ⟨g', cap, cur, rfl, hb, hh, _⟩
  · cases hg
  · simp only [Value.ownBlock, Option.some.injEq] at hg
    subst hg
    exact ⟨hb, cur, hh⟩
theorem ld_grown {w w' : World} {base t pm n K L m : Nat} {P : Nat → List UInt8} {v : Value} {xs : List Value} (h : Ld w t pm n P K L zN) (ho : w.ownsRow base 3 1 v m xs) (hg : w.grownBy w' v.ownBlock) : Ld w' t pm n P K L zN :=
  ⟨h.tr.only (Only.of_grown hg) (fun b hb => by
    have e : v.ownBlock = some b := by simpa using hb
    obtain ⟨_, c, hc⟩ := own_blk ho e
    exact ⟨c, _, hc, .inl rfl⟩), h.one, h.fst, h.lk, h.nm⟩
theorem below_grown {w wr w' : World} {base m : Nat} {v : Value} {xs : List Value} (h : Below w.heap.size w wr) (hb : w.heap.size ≤ base) (ho : wr.ownsRow base 3 1 v m xs) (hg : wr.grownBy w' v.ownBlock) : Below w.heap.size w w' :=
  below_only h (Only.of_grown hg) (fun k hk => by
    have e : v.ownBlock = some k := by simpa using hk
    have := (own_blk ho e).1
    omega)
theorem own_lt {w : World} {base n : Nat} {v : Value} {xs : List Value} (h : w.ownsRow base 3 1 v n xs) {g : Nat} (hg : v.ownBlock = some g) : g < w.heap.size := by
  obtain ⟨_, c, hc⟩ := own_blk h hg
  exact Blk.lt hc
/-- A number is appended to those held. -/
theorem SO.appH {w wr w' : World} {base t pm n K L k : Nat} {P : Nat → List UInt8} {hv gv v' : Value} {H G : List Nat} (h : SO w wr base t pm n K L P hv gv H G) (ho : w'.ownsRow base 3 1 v' (H.length + 1) (inL H ++ [.int .i64 (k : Int)])) (hg : wr.grownBy w' hv.ownBlock) (hat : v'.ownBlock = hv.ownBlock ∨ v'.ownBlock = some wr.heap.size) : SO w w' base t pm n K L P v' gv (H ++ [k]) G := by
  refine ⟨below_grown h.bel (Nat.le_of_lt (Nat.lt_of_le_of_lt h.tb.1 h.tb.2)) h.oh hg, ld_grown h.ld h.oh hg, by simpa [inL] using ho, h.og.kept hg ?_, ?_, h.tb, h.pb, Nat.le_trans h.bs hg.size⟩
  · rcases h.ap with e | e
    · rw [e]; cases gv.ownBlock <;> simp
    · exact .inr (Ne.symm e)
  · rcases hat with e | e
    · rw [e]; exact h.ap
    · refine .inr (fun q => ?_)
      rw [e] at q
      have := own_lt h.og q.symm
      omega
/-- A number is appended to those given back. -/
theorem SO.appG {w wr w' : World} {base t pm n K L k : Nat} {P : Nat → List UInt8} {hv gv v' : Value} {H G : List Nat} (h : SO w wr base t pm n K L P hv gv H G) (ho : w'.ownsRow base 3 1 v' (G.length + 1) (inL G ++ [.int .i64 (k : Int)])) (hg : wr.grownBy w' gv.ownBlock) (hat : v'.ownBlock = gv.ownBlock ∨ v'.ownBlock = some wr.heap.size) : SO w w' base t pm n K L P hv v' H (G ++ [k]) := by
  refine ⟨below_grown h.bel (Nat.le_of_lt (Nat.lt_of_le_of_lt h.tb.1 h.tb.2)) h.og hg, ld_grown h.ld h.og hg, h.oh.kept hg ?_, by simpa [inL] using ho, ?_, h.tb, h.pb, Nat.le_trans h.bs hg.size⟩
  · rcases h.ap with e | e
    · exact .inl e
    · exact .inr e
  · rcases hat with e | e
    · rw [e]; exact h.ap
    · refine .inr (fun q => ?_)
      rw [e] at q
      have := own_lt h.oh q
      omega
theorem inL_at {H : List Nat} {i x : Nat} (h : H[i]? = some x) : (inL H)[i]? = some (.int .i64 (x : Int)) := by simp [inL, h]
theorem inL_set (H : List Nat) (i x : Nat) : (inL H).set i (.int .i64 (x : Int)) = inL (H.set i x) := by simp [inL, List.map_set]
/-- One of those held is written over. -/
theorem SO.setH {w wr : World} {base t pm n K L g c i x : Nat} {P : Nat → List UInt8} {gv : Value} {H G : List Nat} (h : SO w wr base t pm n K L P (.slice (some ⟨g, 0, none⟩) H.length c) gv H G) : SO w (wr.setCell ⟨g, i, none⟩ (.int .i64 (x : Int))) base t pm n K L P (.slice (some ⟨g, 0, none⟩) H.length c) gv (H.set i x) G := by
  obtain ⟨h1, h2⟩ := h.oh.stored i (.int .i64 (x : Int))
  rw [inL_set] at h1
  refine ⟨below_grown h.bel (Nat.le_of_lt (Nat.lt_of_le_of_lt h.tb.1 h.tb.2)) h.oh h2, ld_grown h.ld h.oh h2, by simpa using h1, h.og.kept h2 ?_, h.ap, h.tb, h.pb, Nat.le_trans h.bs h2.size⟩
  rcases h.ap with e | e
  · cases e
  · exact .inr (Ne.symm e)
theorem SO.popH {w wr : World} {base t pm n K L g c x : Nat} {P : Nat → List UInt8} {gv : Value} {H G : List Nat} (h : SO w wr base t pm n K L P (.slice (some ⟨g, 0, none⟩) (H.length + 1) c) gv (H ++ [x]) G) : SO w wr base t pm n K L P (.slice (some ⟨g, 0, none⟩) H.length c) gv H G := by
  have ho := h.oh
  simp only [List.length_append, List.length_singleton] at ho
  exact ⟨h.bel, h.ld, ownsRow_pop (last := inL [x]) (by simp [inL]) (by simpa [inL] using ho), h.og, h.ap, h.tb, h.pb, h.bs⟩
theorem SO.popG {w wr : World} {base t pm n K L g c x : Nat} {P : Nat → List UInt8} {hv : Value} {H G : List Nat} (h : SO w wr base t pm n K L P hv (.slice (some ⟨g, 0, none⟩) (G.length + 1) c) H (G ++ [x])) : SO w wr base t pm n K L P hv (.slice (some ⟨g, 0, none⟩) G.length c) H G := by
  have ho := h.og
  simp only [List.length_append, List.length_singleton] at ho
  exact ⟨h.bel, h.ld, h.oh, ownsRow_pop (last := inL [x]) (by simp [inL]) (by simpa [inL] using ho), h.ap, h.tb, h.pb, h.bs⟩
end Go.Proofs.YtenfjbcigkolaaaGreat

namespace Go.Proofs.YtenfjbcigkolaaaGreat
set_option linter.unusedVariables false

structure PF (P : Nat → List UInt8) (n L : Nat) (H G : List Nat) : Prop where
  ch : Ch P n L G.reverse
  nd : (H ++ G).Nodup
  rg : ∀ x ∈ H, 2 ≤ x ∧ x ≤ n
  cn : H.length + G.length + 1 = n
theorem PF.more {P : Nat → List UInt8} {n L : Nat} {H : List Nat} (h : PF P n L H []) (l : List UInt8) (h1 : 1 ≤ n) : L = 0 ∧ n + 1 ∉ H ∧ PF (upP P (n + 1) l) (n + 1) 0 (H ++ [n + 1]) [] := by
  have hL : L = 0 := by
    have := h.ch
    generalize hq : ([] : List Nat).reverse = q at this
    cases this with
    | nil => rfl
    | cons => simp at hq
  have hn : n + 1 ∉ H := fun hm => by have := h.rg _ hm; omega
  refine ⟨hL, hn, .nil, ?_, ?_, ?_⟩
  · have := h.nd
    simp only [List.append_nil] at this ⊢
    exact List.nodup_append.2 ⟨this, by simp, by intro a ha b hb; simp at hb; subst hb; exact fun e => hn (e ▸ ha)⟩
  · intro x hx
    rcases List.mem_append.1 hx with hx | hx
    · have := h.rg x hx; omega
    · simp at hx; subst hx
      have := h.cn
      omega
  · have := h.cn
    simp only [List.length_append, List.length_singleton, List.length_nil] at this ⊢
    omega
theorem PF.take {P : Nat → List UInt8} {n L x : Nat} {H G : List Nat} (h : PF P n L H (G ++ [x])) (l : List UInt8) : L = x ∧ x ∉ H ∧ 2 ≤ x ∧ x ≤ n ∧ isFree (P x) = true ∧ PF (upP P 1 l) n (linkV (P x)) (H ++ [x]) G := by
  have hc := h.ch
  rw [List.reverse_append] at hc
  simp only [List.reverse_cons, List.reverse_nil, List.nil_append, List.singleton_append] at hc
  have hL : L = x := by cases hc; rfl
  subst hL
  obtain ⟨a1, a2, a3, a4⟩ := hc.take l
  have hp : (H ++ (G ++ [L])).Perm (H ++ [L] ++ G) := by
    rw [List.append_assoc]
    exact (List.perm_append_comm (l₁ := G) (l₂ := [L])).append_left H
  have hnd := hp.nodup_iff.1 h.nd
  refine ⟨rfl, ?_, a1, a2, a3, a4, hnd, ?_, ?_⟩
  · intro hm
    have := (List.nodup_append.1 (List.nodup_append.1 hnd).1).2.2 L hm L (by simp)
    exact this rfl
  · intro y hy
    rcases List.mem_append.1 hy with hy | hy
    · exact h.rg y hy
    · simp at hy; subst hy; exact ⟨a1, a2⟩
  · have := h.cn
    simp only [List.length_append, List.length_singleton] at this ⊢
    omega
theorem set_perm : ∀ (D : List Nat) (i z : Nat) (h : i < D.length), (D.set i z ++ [D[i]]).Perm (D ++ [z])
  | [], i, z, h => by simp at h
  | a :: D, 0, z, h => by
    simp only [List.set_cons_zero, List.getElem_cons_zero, List.cons_append]
    refine List.Perm.trans (List.Perm.cons z (List.perm_append_comm (l₁ := D) (l₂ := [a]))) ?_
    refine List.Perm.trans (List.Perm.swap a z D) ?_
    exact List.Perm.cons a (List.perm_append_comm (l₁ := [z]) (l₂ := D))
  | a :: D, i + 1, z, h => by
    simp only [List.set_cons_succ, List.getElem_cons_succ, List.cons_append]
    exact List.Perm.cons a (set_perm D i z (by simpa using h))
theorem PF.give {P : Nat → List UInt8} {n L i x : Nat} {D G : List Nat} {N : Nat → Nat} {z : Nat} (h : PF P n L (D ++ [z]) G) (hL : L < 4294967296) (hi : i < (D ++ [z]).length) (hx : (D ++ [z])[i] = x) :
    2 ≤ x ∧ x ≤ n ∧ lfR P n x L = none ∧ ∃ D', (D ++ [z]).set i z = D' ++ [z] ∧ D'.length = D.length ∧ PF (gvP P n x L N) n x D' (G ++ [x]) := by
  have hm : x ∈ D ++ [z] := hx ▸ List.getElem_mem hi
  have hr := h.rg x hm
  have hk : x ∉ G.reverse := fun hg => by
    have := (List.nodup_append.1 h.nd).2.2 x hm x (by simpa using hg)
    exact this rfl
  obtain ⟨e1, e2⟩ := h.ch.give (N := N) hL hr.1 hr.2 hk
  obtain ⟨D', hd, hl, hp⟩ : ∃ D', (D ++ [z]).set i z = D' ++ [z] ∧ D'.length = D.length ∧ (D' ++ [x]).Perm (D ++ [z]) := by
    by_cases hid : i < D.length
    · refine ⟨D.set i z, by rw [List.set_append_left _ _ hid], by simp, ?_⟩
      rw [← hx, List.getElem_append_left hid]
      exact set_perm D i z hid
    · have hie : i = D.length := by simp at hi; omega
      subst hie
      refine ⟨D, by simp, rfl, ?_⟩
      rw [← hx]; simp
  refine ⟨hr.1, hr.2, e1, D', hd, hl, ?_, ?_, ?_, ?_⟩
  · rw [List.reverse_append]; simpa using e2
  · have hpp : (D' ++ (G ++ [x])).Perm ((D ++ [z]) ++ G) := by
      refine List.Perm.trans ((List.perm_append_comm (l₁ := G) (l₂ := [x])).append_left D') ?_
      rw [← List.append_assoc]
      exact hp.append_right G
    exact hpp.nodup_iff.2 h.nd
  · intro y hy
    exact h.rg y (hp.mem_iff.1 (by simp [hy]))
  · have := h.cn
    simp only [List.length_append, List.length_singleton] at this ⊢
    omega
end Go.Proofs.YtenfjbcigkolaaaGreat

namespace Go.Proofs.YtenfjbcigkolaaaGreat
open Go.ChangeShapes Go.WideShapes Go.ChangeAt Go.RowKit Go.Deep
set_option linter.unusedVariables false

/-- A row of numbers that came in. -/
def IntP (w : World) (p : Option Addr) (len : Nat) (C : Nat → Int) : Prop := 0 < len → ∃ b o, p = some ⟨b, o, none⟩ ∧ ∀ i, i < len → w.cell? ⟨b, o + i, none⟩ = some (.int .i64 (C i))
theorem cell_later1 {w w' : World} (hb : Below w.heap.size w w') {b k : Nat} {v : Value} (h : w.cell? ⟨b, k, none⟩ = some v) : w'.cell? ⟨b, k, none⟩ = some v := cell_later hb h
theorem IntP.later {w w' : World} {p : Option Addr} {len : Nat} {C : Nat → Int} (h : IntP w p len C) (hb : Below w.heap.size w w') : IntP w' p len C := fun h0 => let ⟨b, o, e, g⟩ := h h0; ⟨b, o, e, fun i hi => cell_later1 hb (g i hi)⟩
theorem cellsInt : Tryz.prog.cellsOf 3 = 1 := by kernel_rfl
theorem one_ofR {α : Type} {l : List α} (h : l.length = 1) : ∃ a, l = [a] := by
  match l, h with
  | [a], _ => exact ⟨a, rfl⟩
set_option maxRecDepth 100000 in
theorem open_intsR {H : Type} {enc : TypeId × Value → H} {w : World} {fuel : Nat} {cs : List Value} {x : DataW H × List MemPlace} (h : DataW.trod enc Tryz.prog w 0 (fun _ => true) true fuel 42 cs = some x) :
    ∃ (p : Option Addr) (len cap : Nat) (A : Nat → Int), cs = [.slice p len cap] ∧ IntP w p len A := by
  rcases open_slice Tryz.underlying42 h with h0 | ⟨a, len, cap, m, n, D, Pl, rfl, hb, hl, hm, hmm, rfl, hx⟩
  · exact ⟨none, 0, 0, fun _ => 0, h0.1, fun h => by omega⟩
  simp only [if_true] at hmm
  by_cases h0 : len = 0
  · subst h0; exact ⟨some a, 0, cap, fun _ => 0, rfl, fun h => by omega⟩
  have each : ∀ i, i < m → ∃ q : Int, w.cell? (a.add i) = some (.int .i64 q) := by
    intro i hi
    obtain ⟨cs', h1, h2⟩ := hx i hi
    rw [cellsInt] at h1
    obtain ⟨_, hlen, hcell⟩ := World.cells?_some h1
    obtain ⟨v0, rfl⟩ := one_ofR hlen
    obtain ⟨p, e0, _, hwf⟩ := DataW.trod_int Tryz.underlying3 h2
    simp at e0
    subst e0
    have c0 := hcell 0 (by omega)
    rw [add_add] at c0
    exact ⟨p, by simpa using c0⟩
  obtain ⟨q, hq⟩ := choose_lt each
  obtain ⟨b, o, spot⟩ := a
  have hspot : spot = none := by simpa [Addr.add] using World.cell?_spot (hq 0 (by omega))
  subst hspot
  refine ⟨some ⟨b, o, none⟩, len, cap, q, rfl, fun _ => ⟨b, o, rfl, fun j hj => ?_⟩⟩
  have c0 := hq j (by omega)
  rw [add_plain] at c0
  exact c0
end Go.Proofs.YtenfjbcigkolaaaGreat

namespace Go.Proofs.YtenfjbcigkolaaaGreat
open Go.ChangeShapes Go.WideShapes Go.ChangeAt Go.RowKit Go.Maps
set_option linter.unusedVariables false

theorem own_cell {w : World} {base c : Nat} {p : Option Addr} {H : List Nat} (h : w.ownsRow base 3 1 (.slice p H.length c) H.length (inL H)) {j : Nat} (hj : j < H.length) : ∃ g, p = some ⟨g, 0, none⟩ ∧ w.cell? ⟨g, j, none⟩ = some (.int .i64 (H[j] : Int)) := by
  rcases h.2 with ⟨e, h0⟩ | ⟨g, cap, cur, e, _⟩
  · omega
  · injection e with e1 e2 e3
    subst e1
    refine ⟨g, rfl, (h.cellAt j (by omega)).trans ?_⟩
    exact inL_at (by simp [hj])
/-- A number is appended to a row that is owned; where the new one lies. -/
theorem wp_appJ {ops : Array Oper} {rest : List Oper} {o : Oper} {a : Act} {Q : Exit → Act → World → Prop} {w : World} {base n : Nat} {v : Value} {xs : List Value} (hown : w.ownsRow base 3 1 v n xs) {ad : Addr} {m c : Nat} {news : List Value}
    (hl : news.length = m * 1) (hnews : ∀ j u, news[j]? = some u → w.cell? (ad.add j) = some u) (h1 : ∀ u ∈ news, u.oneCell' = true) (hn : (n + m) * 8 ≤ 140737488355328) (hbase : base ≤ w.heap.size) (s z : Operand)
    (hgd : o.guard = none) (ho : o.op = .call { callee := .builtin .append, args := #[s, z], argTypes := #[42, 42] }) (hs : a.eval s = v) (hz : a.eval z = .slice (some ad) m c)
    (hk : ∀ v' w', w'.ownsRow base 3 1 v' (n + m) (xs ++ news) → w.grownBy w' v.ownBlock → (v'.ownBlock = v.ownBlock ∨ v'.ownBlock = some w.heap.size) → wpList Tryz.prog ops Q rest (a.put o.dst v') w') : wpList Tryz.prog ops Q (o :: rest) a w := by
  obtain ⟨i, hi, hz0, hsz, hby⟩ := int_info
  exact wpList_append_own_at w hgd s z 42 ho base 3 i _ 1 8 Tryz.underlying42 hi hz0 hsz hby rfl (by omega) v n xs hs hown ad m c news hz hl hnews h1 (by simp only [maxLen]; omega) hn hbase (fun v' w' h2 h3 h4 h5 => hk v' w' h2 h3 h5)
theorem own_cap {w : World} {base n c : Nat} {p : Option Addr} {xs : List Value} (h : w.ownsRow base 3 1 (.slice p n c) n xs) : n ≤ c := by
  rcases h.2 with ⟨e, h0⟩ | ⟨g, cap, cur, e, _, _, h1, _⟩
  · omega
  · injection e with e1 e2 e3
    omega
theorem own_cellS {w : World} {base g c : Nat} {H : List Nat} (h : w.ownsRow base 3 1 (.slice (some ⟨g, 0, none⟩) H.length c) H.length (inL H)) {j x : Nat} (hj : H[j]? = some x) : w.cell? ⟨g, j, none⟩ = some (.int .i64 (x : Int)) := by
  obtain ⟨hjl, hx⟩ := List.getElem?_eq_some_iff.1 hj
  obtain ⟨g', e, hc⟩ := own_cell h hjl
  simp only [Option.some.injEq, Addr.mk.injEq] at e
  rw [e.1, hc, hx]
theorem own_frz {w : World} {base n g c : Nat} {xs : List Value} (h : w.ownsRow base 3 1 (.slice (some ⟨g, 0, none⟩) n c) n xs) (k : Nat) : w.frozen? ⟨g, k, none⟩ = false := by
  obtain ⟨_, cc, hb⟩ := own_blk h rfl
  exact hb.frozen k
theorem SO.drop {w wr : World} {base t pm n K L g c i zz : Nat} {P : Nat → List UInt8} {gv : Value} {D D' G : List Nat} (h : SO w wr base t pm n K L P (.slice (some ⟨g, 0, none⟩) (D ++ [zz]).length c) gv (D ++ [zz]) G) (hd : (D ++ [zz]).set i zz = D' ++ [zz]) (hl : D'.length = D.length) : SO w (wr.setCell ⟨g, i, none⟩ (.int .i64 (zz : Int))) base t pm n K L P (.slice (some ⟨g, 0, none⟩) D.length c) gv D' G := by
  have h1 := h.setH (i := i) (x := zz)
  rw [hd, show (D ++ [zz]).length = D'.length + 1 by simp [hl]] at h1
  have h2 := h1.popH
  rw [hl] at h2
  exact h2
theorem and_small (c : Int) (m : Nat) (hm : m < 1000000) : ∃ n : Nat, n ≤ m ∧ bits .and .i64 c (m : Int) = (n : Int) := by
  refine ⟨(BitVec.ofInt 64 c).toNat &&& m, Nat.and_le_right, ?_⟩
  have hx : (BitVec.ofInt 64 c).toNat &&& m ≤ m := Nat.and_le_right
  show IntKind.i64.wrap ((BitVec.ofInt 64 c &&& BitVec.ofInt 64 (m : Int)).toNat : Int) = _
  rw [BitVec.toNat_and]
  have e : (BitVec.ofInt 64 (m : Int)).toNat = m := by simp; omega
  rw [e, IntKind.wrap_i64]
  omega
theorem ld_give {w w' : World} {t pm n K L x : Nat} {P : Nat → List UInt8} {K' : Nat} (h : Ld w t pm n P K L zN) (hx : x < 4294967296) (ht : Tr w' t pm n (gvP P n x L zN) K' true) : Ld w' t pm n (gvP P n x L zN) K' x zN :=
  ⟨ht, h.one, fst_of (upP_at _ _ _) hx h.nm, hx, h.nm⟩
theorem one_cellS (V : World) (a : Addr) (y v : Value) (T : TypeId) : ∀ j u, [v][j]? = some u → ((V.setCell a y).alloc (.cells #[v] T)).cell? ((⟨V.heap.size, 0, none⟩ : Addr).add j) = some u := by
  have h := one_cell (V.setCell a y) v T
  rw [show (V.setCell a y).heap.size = V.heap.size by simp [World.setCell]] at h
  exact h
theorem len_facts (d : Nat) (h : d ≤ 300) : IntKind.i64.wrap ((d : Int) + 1 - 1) = (d : Int) ∧ IntKind.i64.wrap (d : Int) = (d : Int) ∧ wrap64 (d : Int) = (d : Int) ∧ (0 : Int) ≤ (d : Int) ∧ (d : Int) < (d : Int) + 1 ∧ (d : Int) ≤ (d : Int) + 1 := by
  have h1 : IntKind.i64.wrap (d : Int) = (d : Int) := by rw [IntKind.wrap_i64]; omega
  exact ⟨by rw [IntKind.wrap_i64]; omega, h1, by unfold wrap64; omega, by omega, by omega, by omega⟩
theorem cap_facts {w : World} {base ch zz : Nat} {p : Option Addr} {D : List Nat} {xs : List Value} (h : w.ownsRow base 3 1 (.slice p (D ++ [zz]).length ch) (D ++ [zz]).length xs) : (D.length : Int) ≤ (ch : Int) ∧ (D.length : Int) + 1 ≤ (ch : Int) := by
  have := own_cap h
  simp at this
  omega
theorem idx_facts {i d : Nat} (h : i < d + 1) : (0 : Int) ≤ (i : Int) ∧ (i : Int) < (d : Int) + 1 := by omega
theorem gl_fact {n a b : Nat} (h : a + (b + 1) + 1 = n) (hn : n ≤ 300) : (b + 1) * 8 ≤ 140737488355328 := by omega
theorem ld_take {w w' : World} {t pm n K L X : Nat} {P : Nat → List UInt8} (h : Ld w t pm n P K L zN) (ht : Tr w' t pm n (upP P 1 (firstL (linkV (P X)) zN)) (K + 1) true) : Ld w' t pm n (upP P 1 (firstL (linkV (P X)) zN)) (K + 1) (linkV (P X)) zN :=
  ⟨ht, h.one, fst_of (upP_at _ _ _) (linkV_lt _) h.nm, linkV_lt _, h.nm⟩
theorem ld_more {w w' : World} {t pm n K : Nat} {P : Nat → List UInt8} (h : Ld w t pm n P K 0 zN) (ht : Tr w' t pm (n + 1) (upP P (n + 1) (freeL 0)) (K + 1) true) : Ld w' t pm (n + 1) (upP P (n + 1) (freeL 0)) (K + 1) 0 zN :=
  ⟨ht, by omega, by rw [upP_off _ _ (by have := h.one; omega)]; exact h.fst, by omega, h.nm⟩
set_option maxRecDepth 20000 in
set_option maxHeartbeats 4000000 in
theorem once_walk (w : World) (p : Option Addr) (len cap : Nat) (C : Nat → Int) (hp : IntP w p len C) : Calls Tryz.prog 6 #[.slice p len cap] w fun e w' => e = .returned (.bool true) ∧ Below w.heap.size w w' := by
  have HAw := hide awake_e
  by_cases hbig : 200 < len
  · have l1 : (200 : Int) < (len : Int) := by omega
    go_enter Tryz.func6, Tryz.ntmps6
    go_wp2_with (first
      | (go_at_call 33; (with_reducible refine Calls.mono (HAw.out _) ?_); rintro e w1 ⟨rfl, hb⟩; have HB1 := hide hb; clear hb))
    go_ret
    exact ⟨rfl, HB1.out⟩
  · have l1 : ¬ (200 : Int) < (len : Int) := by omega
    have HO := hide (lopen_l w)
    have HIp := hide hp
    have HFr := hide (fun V t pm n P K L (h : Ld V t pm n P K L zN) => free_e V t pm n h)
    have HCt := hide (fun V t pm n P K (h : Tr V t pm n P K true) => count_e V t pm n h)
    have HLn := hide hbig
    clear hp hbig
    go_enter Tryz.func6, Tryz.ntmps6
    go_wp2_with (first
      | (go_at_call 34; (with_reducible refine Calls.mono HO.out ?_); rintro e w1 ⟨t, rfl, pm, h1, h2, h3, h4⟩; have HL1 := hide h1; have HB1 := hide h2; have HT1 := hide (And.intro h3 h4); clear h1 h2 h3 h4))
    go_loopw [5, 6, 7] (fun hv gv kv wr => ∃ (k n K L : Nat) (P : Nat → List UInt8) (H G : List Nat), kv = .int .i64 (k : Int) ∧ k ≤ len ∧ SO w wr w1.heap.size t pm n K L P hv gv H G ∧ PF P n L H G ∧ n ≤ k + 1 ∧ K ≤ 3 * k + 1) (fun _ _ kv _ => len - (intOf kv).toNat)
    case atStart =>
      exact ⟨0, 1, 1, 0, _, [], [], rfl, by omega, ⟨HB1.out, HL1.out, World.ownsRow_nil _ _ _ _, World.ownsRow_nil _ _ _ _, .inl rfl, ⟨HT1.out.1, (tr_lt HL1.out.tr).1⟩, ⟨HT1.out.2, (tr_lt HL1.out.tr).2⟩, Nat.le_refl _⟩, ⟨.nil, by simp, by simp, by simp⟩, by omega, by omega⟩
    case round =>
      obtain ⟨k, n, K, L, P, H, G, rfl, hk, hs, hf, hnk, hKk⟩ := hrel
      by_cases hlt : k < len
      · have l2 : (k : Int) < (len : Int) := by omega
        have l3 : (0 : Int) ≤ (k : Int) := by omega
        obtain ⟨b, o, rfl, hc⟩ := HIp.out (by omega)
        have c0 := cell_later hs.bel (hc k hlt)
        have hwk : IntKind.i64.wrap ((k : Int) + 1) = ((k + 1 : Nat) : Int) := by rw [IntKind.wrap_i64]; omega
        obtain ⟨z, hz⟩ : ∃ z, bits BinOp.and IntKind.i64 (C k) 1 = z := ⟨_, rfl⟩
        obtain ⟨ph, ch, rfl⟩ := own_form hs.oh
        obtain ⟨pg, cg, rfl⟩ := own_form hs.og
        have hHl : H.length ≤ 300 := by have := hf.cn; omega
        by_cases htk : z = 0 ∨ H.length = 0
        · have hgd : (z == 0) = true ∨ ((z == 0) = false ∧ ((H.length : Int) == 0) = true) := by
            by_cases h0 : z = 0
            · exact .inl (by simpa using h0)
            · exact .inr ⟨by simpa using h0, by have := htk.resolve_left h0; rw [this]; rfl⟩
          clear htk
          rcases List.eq_nil_or_concat G with rfl | ⟨G', x, rfl⟩
          · obtain ⟨rfl, hnH, hf'⟩ := hf.more (freeL 0) hs.ld.one
            have HTk := hide (take_more wr t pm n hs.ld (by omega) (by omega))
            have HS := hide hs
            have HPf := hide hf'
            have HnH := hide hnH
            have g1 : ¬ ((n : Int) + 1) < 2 := by have := hs.ld.one; omega
            clear hs hf hf' hnH hc
            rcases hgd with hz0 | ⟨hz0, hH0⟩
            all_goals
              go_wp2_with (first
                | (go_at_call 38; (with_reducible refine Calls.mono HTk.out ?_); rintro e w5 ⟨rfl, ht, ho⟩; have HS5 := hide (HS.out.tx ho (ld_more HS.out.ld ht)); clear ht ho)
                | (go_at_call 21; (with_reducible refine Calls.mono (HCt.out _ _ _ _ _ _ HS5.out.ld.tr) ?_); rintro e w6 ⟨rfl, hb⟩; have HS6 := hide (HS5.out.later hb); clear hb))
              go_loopw [10] (fun jv wq => ∃ j : Nat, jv = .int .i64 (j : Int) ∧ j ≤ H.length ∧ wq = w6) (fun jv _ => H.length - (intOf jv).toNat)
              case atStart => exact ⟨0, rfl, by omega, rfl⟩
              case round =>
                obtain ⟨j, rfl, hj, rfl⟩ := hrel
                by_cases hjl : j < H.length
                · have m1 : (j : Int) < (H.length : Int) := by omega
                  have m0 : (0 : Int) ≤ (j : Int) := by omega
                  obtain ⟨g, rfl, cj⟩ := own_cell HS6.out.oh hjl
                  have hne : ((H[j] : Int) == (n : Int) + 1) = false := by
                    have := HnH.out
                    have hm : H[j] ∈ H := List.getElem_mem hjl
                    simp only [beq_eq_false_iff_ne, ne_eq]
                    intro e
                    exact this (by rw [← show H[j] = n + 1 by omega]; exact hm)
                  have hwj : IntKind.i64.wrap ((j : Int) + 1) = ((j + 1 : Nat) : Int) := by rw [IntKind.wrap_i64]; omega
                  go_wp2
                  go_roundw
                  case rel => exact ⟨j + 1, rfl, by omega, by first | rfl | trivial⟩
                  case measure => simp [intOf]; omega
                · have m1 : ¬ (j : Int) < (H.length : Int) := by omega
                  go_wp2_with (first
                    | (go_at_call 21; (with_reducible refine Calls.mono (HCt.out _ _ _ _ _ _ HS6.out.ld.tr) ?_); rintro e w7 ⟨rfl, hb⟩; have HS7 := hide ((HS6.out.later hb).later (below_alloc w7 (.cells #[.int .i64 ((n : Int) + 1)] 3))); clear hb)
                    | (at_builtin; refine wp_appJ HS7.out.oh (m := 1) (news := [.int .i64 ((n : Int) + 1)]) rfl (one_cell w7 _ _) (one_int _) (by have := HPf.out.cn; simp at this; omega) HS7.out.bs _ _ (by rfl) (by rfl) (by rfl) (by rfl) ?_; intro v2 w8 ho hg ha; have HS8 := hide (HS7.out.appH (k := n + 1) ho hg ha); clear ho hg ha))
                  go_roundw
                  case rel => exact ⟨k + 1, n + 1, K + 1, 0, _, H ++ [n + 1], [], rfl, by omega, HS8.out, HPf.out, by omega, by omega⟩
                  case measure => simp [intOf]; omega
          · obtain ⟨rfl, hnH, g2, g3, g4, hf'⟩ := PF.take (G := G') (x := x) (by simpa using hf) (firstL (linkV (P x)) zN)
            have HTk := hide (take_free wr t pm n hs.ld (by omega) g2 g3 g4 (by omega))
            have HLd := hide (fun V ht => ld_take (X := L) (w' := V) hs.ld ht)
            have HS := hide hs
            have HPf := hide hf'
            have HnH := hide hnH
            have g1 : ¬ (L : Int) < 2 := by omega
            have g5 : ¬ (n : Int) < (L : Int) := by omega
            have g6 : (0 : Int) < (G'.length : Int) + 1 := by omega
            have g7 : IntKind.i64.wrap ((G'.length : Int) + 1 - 1) = (G'.length : Int) := by have := hf'.cn; rw [IntKind.wrap_i64]; omega
            have g13 : IntKind.i64.wrap (G'.length : Int) = (G'.length : Int) := by have := hf'.cn; rw [IntKind.wrap_i64]; omega
            have g8 : (0 : Int) ≤ (G'.length : Int) := by omega
            have g9 : (G'.length : Int) < (G'.length : Int) + 1 := by omega
            have g10 : (G'.length : Int) ≤ (G'.length : Int) + 1 := by omega
            clear hs hf hf' hnH hc
            rcases hgd with hz0 | ⟨hz0, hH0⟩
            all_goals
              go_wp2_with (first
                | (go_at_call 38; (with_reducible refine Calls.mono HTk.out ?_); rintro e w5 ⟨rfl, ht, ho⟩; have HS5 := hide (HS.out.tx ho (HLd.out _ ht)); clear ht ho)
                | (go_at_call 21; (with_reducible refine Calls.mono (HCt.out _ _ _ _ _ _ HS5.out.ld.tr) ?_); rintro e w6 ⟨rfl, hb⟩; have HS6 := hide (HS5.out.later hb); clear hb))
              go_loopw [10] (fun jv wq => ∃ j : Nat, jv = .int .i64 (j : Int) ∧ j ≤ H.length ∧ wq = w6) (fun jv _ => H.length - (intOf jv).toNat)
              case atStart => exact ⟨0, rfl, by omega, rfl⟩
              case round =>
                obtain ⟨j, rfl, hj, rfl⟩ := hrel
                by_cases hjl : j < H.length
                · have m1 : (j : Int) < (H.length : Int) := by omega
                  have m0 : (0 : Int) ≤ (j : Int) := by omega
                  obtain ⟨g, rfl, cj⟩ := own_cell HS6.out.oh hjl
                  have hne : ((H[j] : Int) == (L : Int)) = false := by
                    have := HnH.out
                    have hm : H[j] ∈ H := List.getElem_mem hjl
                    simp only [beq_eq_false_iff_ne, ne_eq]
                    intro e
                    exact this (by rw [← show H[j] = L by omega]; exact hm)
                  have hwj : IntKind.i64.wrap ((j : Int) + 1) = ((j + 1 : Nat) : Int) := by rw [IntKind.wrap_i64]; omega
                  go_wp2
                  go_roundw
                  case rel => exact ⟨j + 1, rfl, by omega, by first | rfl | trivial⟩
                  case measure => simp [intOf]; omega
                · have m1 : ¬ (j : Int) < (H.length : Int) := by omega
                  obtain ⟨g, rfl, cg0⟩ := own_cell HS6.out.og (j := G'.length) (by simp)
                  have cgl := cg0.trans (show _ = some (Value.int .i64 (L : Int)) by simp)
                  have HS7 := hide ((SO.popG (x := L) (G := G') (by simpa using HS6.out)).later (below_alloc _ (.cells #[.int .i64 (L : Int)] 3)))
                  have g11 : (G'.length : Int) ≤ (cg : Int) := by
                    have := own_cap HS6.out.og
                    simp at this
                    omega
                  have g12 : (G'.length : Int) + 1 ≤ (cg : Int) := by
                    have := own_cap HS6.out.og
                    simp at this
                    omega
                  clear cg0
                  go_wp2_with (first
                    | (at_builtin; refine wp_appJ HS7.out.oh (m := 1) (news := [.int .i64 (L : Int)]) rfl (one_cell _ _ _) (one_int _) (by omega) HS7.out.bs _ _ (by rfl) (by rfl) (by rfl) (by rfl) ?_; intro v2 w8 ho hg ha; have HS8 := hide (HS7.out.appH (k := L) ho hg ha); clear ho hg ha))
                  go_roundw
                  case rel => exact ⟨k + 1, n, K + 1, _, _, H ++ [L], G', rfl, by omega, HS8.out, HPf.out, by omega, by omega⟩
                  case measure => simp [intOf]; omega
        · have hz0 : (z == 0) = false := by
            simp only [beq_eq_false_iff_ne, ne_eq]
            exact fun e => htk (.inl e)
          obtain ⟨D, zz, rfl⟩ : ∃ D zz, H = D ++ [zz] := by
            rcases List.eq_nil_or_concat H with h | ⟨D, zz, h⟩
            · subst h; simp at htk
            · exact ⟨D, zz, by simpa using h⟩
          have hDl : D.length ≤ 300 := by simp at hHl; omega
          have hn3 : n ≤ 300 := by omega
          have hH0 : ((D.length : Int) + 1 == 0) = false := by simp; omega
          obtain ⟨q, hq, hqe⟩ := and_small (C k / 2) 1023 (by omega)
          have hqe' : bits BinOp.and IntKind.i64 (C k / 2) 1023 = (q : Int) := hqe
          obtain ⟨i, hi⟩ : ∃ i, i = q % (D.length + 1) := ⟨_, rfl⟩
          have hil : i < D.length + 1 := hi ▸ Nat.mod_lt _ (by omega)
          have htm : ((q : Int)).tmod ((D.length : Int) + 1) = (i : Int) := by
            rw [show (D.length : Int) + 1 = ((D.length + 1 : Nat) : Int) by omega, hi]; rfl
          clear hi hq hqe
          obtain ⟨x, hx⟩ : ∃ x, (D ++ [zz])[i]'(by simp; omega) = x := ⟨_, rfl⟩
          obtain ⟨g2, g3, g4, D', hd, hdl, hf'⟩ := hf.give (N := zN) hs.ld.lk (by simp; omega) hx
          have hx2 : (D ++ [zz])[i]? = some x := by rw [List.getElem?_eq_getElem (by simp; omega), hx]
          have HGv := hide (give_e wr t pm n hs.ld (by omega) x g2 g3)
          rw [g4] at HGv
          have HLd := hide (fun V K' ht => ld_give (x := x) (w' := V) (K' := K') hs.ld (by have := hs.ld.tr.few; omega) ht)
          have HPf := hide hf'
          obtain ⟨g, rfl, hjk⟩ := own_cell hs.oh (j := i) (by simp; omega)
          clear hjk
          have ci := own_cellS hs.oh hx2
          have HSx := hide (fun (V : World) (h : SO w V w1.heap.size t pm n (lfK K none + 2) x (gvP P n x L zN) (.slice (some ⟨g, 0, none⟩) (D ++ [zz]).length ch) (.slice pg G.length cg) (D ++ [zz]) G) => And.intro (own_cellS (j := D.length) (x := zz) h.oh (by simp)) (And.intro (own_cellS h.oh hx2) (And.intro (own_frz h.oh i) (SO.drop h hd hdl))))
          obtain ⟨g5, g6⟩ := idx_facts hil
          obtain ⟨g7, g13, g14, g8, g9, g10⟩ := len_facts D.length hDl
          clear g14
          obtain ⟨g11, g12⟩ := cap_facts hs.oh
          have HS := hide hs
          have HGl : Hid ((G.length + 1) * 8 ≤ 140737488355328) := hide (gl_fact (by simpa using hf'.cn) hn3)
          clear hs hf hf' hc htk hx hx2 hd hHl hil hn3 hDl
          go_wp2_with (first
            | (go_at_call 41; (with_reducible refine Calls.mono HGv.out ?_); rintro e w5 ⟨rfl, ht, ho⟩; obtain ⟨c1, c2, c3, h5⟩ := HSx.out _ (HS.out.tx ho (HLd.out _ _ ht)); have HS7 := hide (h5.later (below_alloc _ (.cells #[.int .i64 (x : Int)] 3))); clear ht ho h5)
            | (at_builtin; refine wp_appJ HS7.out.og (m := 1) (news := [.int .i64 (x : Int)]) rfl (one_cellS _ _ _ _ _) (one_int _) HGl.out HS7.out.bs _ _ (by rfl) (by rfl) (by rfl) (by rfl) ?_; intro v2 w8 ho hg ha; have HS8 := hide (HS7.out.appG (k := x) ho hg ha); clear ho hg ha))
          go_roundw
          case rel => exact ⟨k + 1, n, lfK K none + 2, x, _, D', G ++ [x], rfl, by omega, HS8.out, HPf.out, by omega, by simp only [lfK]; omega⟩
          case measure => simp [intOf]; omega
      · have l2 : ¬ (k : Int) < (len : Int) := by omega
        obtain ⟨ph, ch, rfl⟩ := own_form hs.oh
        obtain ⟨pg, cg, rfl⟩ := own_form hs.og
        have hfr : freeR P n (n - 1) L = some G.reverse := hf.ch.free _ (by have := hf.cn; simp; omega)
        have HF := hide (free_e wr t pm n hs.ld)
        rw [hfr] at HF
        have HL := hide hs.ld.tr
        have HB := hide hs.bel
        have e1 : IntKind.i64.wrap ((H.length : Int) + (G.length : Int)) = (n : Int) - 1 := by have := hf.cn; rw [IntKind.wrap_i64]; omega
        have e2 : IntKind.i64.wrap ((n : Int) - 1) = (n : Int) - 1 := by rw [IntKind.wrap_i64]; omega
        clear hs hf hfr hlt
        go_wp2_with (first
          | (go_at_call 44; (with_reducible refine Calls.mono HF.out ?_); rintro e w5 ⟨v, rfl, hov, hb⟩; rw [List.length_reverse] at hov; obtain ⟨pf, cf, rfl⟩ := own_form hov; have HL5 := hide (HL.out.later hb); have HB5 := hide (below_trans HB.out hb); clear hov hb)
          | (go_at_call 21; (with_reducible refine Calls.mono (HCt.out _ _ _ _ _ _ HL5.out) ?_); rintro e w6 ⟨rfl, hb⟩; have HB6 := hide (below_trans HB5.out hb); clear hb)
          | (go_at_call 33; (with_reducible refine Calls.mono (HAw.out _) ?_); rintro e w7 ⟨rfl, hb⟩; have HB7 := hide (below_trans HB6.out hb); clear hb))
        go_ret
        exact ⟨rfl, HB7.out⟩
end Go.Proofs.YtenfjbcigkolaaaGreat
