/- Rows of one's own, two at a time; the document's Bytes of a token. -/
import Derived.Test.YtkooijhdjjdigabDoorKG
namespace Go.Proofs.YtkooijhdjjdigabDoor
open Go.ChangeShapes Go.WideShapes Go.ChangeAt Go.RowKit
set_option linter.unusedVariables false

theorem below_trans {w w1 w2 : World} (h : Below w.heap.size w w1) (k : Below w1.heap.size w1 w2) : Below w.heap.size w w2 :=
  h.trans (k.mono h.size)
theorem ext_list (s : ByteArray) (a b : Nat) : (s.extract a b).data.toList = (s.data.toList.take b).drop a := by
  rw [ByteArray.data_extract, Array.toList_extract, List.extract_eq_take_drop, List.drop_take]
def InfoE (e size bytes : Nat) : Prop := ∃ i z, Tryd.prog.info? e = some i ∧ i.zero = some z ∧ i.size = size ∧ i.bytes = bytes ∧ z.cells.size = size
theorem infoE_of {e size bytes : Nat} (h : (Tryd.prog.info? e).map (fun i => (i.zero.map (fun z => z.cells.size), i.size, i.bytes)) = some (some size, size, bytes)) : InfoE e size bytes := by
  obtain ⟨i, h1, h2⟩ := Option.map_eq_some_iff.1 h
  simp only [Prod.mk.injEq] at h2
  obtain ⟨z, h3, h4⟩ := Option.map_eq_some_iff.1 h2.1
  exact ⟨i, z, h1, h3, h2.2.1, h2.2.2, h4⟩
theorem infoTok : InfoE 32 3 32 := infoE_of (by kernel_rfl)
theorem infoInt : InfoE 3 1 8 := infoE_of (by kernel_rfl)
theorem infoStr : InfoE 9 1 16 := infoE_of (by kernel_rfl)
theorem own_other {w w' : World} {base base2 e e2 size s2 n n2 : Nat} {v v2 : Value} {xs ys : List Value} (h : w.ownsRow base e size v n xs) (h2 : w.ownsRow base2 e2 s2 v2 n2 ys) (hne : e ≠ e2) (hg : w.grownBy w' v2.ownBlock) : w'.ownsRow base e size v n xs := by
  refine ⟨h.1, ?_⟩
  rcases h.2 with hn | ⟨g, cap, cur, hv, hb, hgg, rest⟩
  · exact .inl hn
  · refine .inr ⟨g, cap, cur, hv, hb, (hg.block g (Array.getElem?_eq_some_iff.1 hgg).1 ?_).trans hgg, rest⟩
    rcases h2.2 with ⟨rfl, _⟩ | ⟨g2, cap2, cur2, rfl, _, hg2, _⟩
    · intro e; cases e
    · intro e
      injection e with e
      subst e
      have := hgg.symm.trans hg2
      injection this with this
      injection this with _ e3 _
      exact hne e3
theorem own_below {w w' : World} {base e size n : Nat} {v : Value} {xs : List Value} (h : w.ownsRow base e size v n xs) (hb : Below w.heap.size w w') : w'.ownsRow base e size v n xs := by
  refine ⟨h.1, ?_⟩
  rcases h.2 with hn | ⟨g, cap, cur, hv, hbg, hgg, rest⟩
  · exact .inl hn
  · exact .inr ⟨g, cap, cur, hv, hbg, (hb.block g (Array.getElem?_eq_some_iff.1 hgg).1).trans hgg, rest⟩
theorem wp_appT (t e size bytes : Nat) {ops : Array Oper} {rest : List Oper} {o : Oper} {a : Act} {Q : Exit → Act → World → Prop} {W : World} {base n m : Nat} {v : Value} {xs : List Value} (hu : Tryd.prog.underlying t = some (.slice e)) (hinf : InfoE e size bytes) (hpos : 0 < size)
    (news : List Value) (hl : news.length = m * size) (hm : 0 < m) (hone : ∀ u ∈ news, u.oneCell' = true) (hown : W.ownsRow base e size v n xs) (hn : (n + m) * bytes ≤ 140737488355328) (hn2 : n + m ≤ 140737488355328) (hbase : base ≤ W.heap.size) (s x : Operand)
    (hgd : o.guard = none) (ho : o.op = .call { callee := .builtin .append, args := #[s, x], argTypes := #[t, t] }) (hs : a.eval s = v) (hx : a.eval x = .slice (some ⟨W.heap.size, 0, none⟩) m m)
    (hk : ∀ g cap w', w'.ownsRow base e size (.slice (some ⟨g, 0, none⟩) (n + m) cap) (n + m) (xs ++ news) → (∀ A, Below base A W → Below base A w') → (∀ base2 e2 s2 n2 v2 ys, e2 ≠ e → W.ownsRow base2 e2 s2 v2 n2 ys → w'.ownsRow base2 e2 s2 v2 n2 ys) → W.heap.size ≤ w'.heap.size → wpList Tryd.prog ops Q rest (a.put o.dst (.slice (some ⟨g, 0, none⟩) (n + m) cap)) w') :
    wpList Tryd.prog ops Q (o :: rest) a (W.alloc (.cells news.toArray e)) := by
  obtain ⟨i, z, hi, hz0, hz1, hz2, hz3⟩ := hinf
  have hu2 := hown.alloc (.cells news.toArray e)
  refine wpList_append_lies _ hgd s x t ho base e i z size bytes hu hi hz0 hz1 hz2 hz3 hpos v n xs hs hu2 ⟨W.heap.size, 0, none⟩ m m news hx hl (World.news_of_block (cs := news.toArray) (t := e) (fr := (0, 0)) (heap_alloc_new W _)) hone hm (by simp only [maxLen]; omega) hn (by simp; omega) _ rfl ?_
  intro g cap w' hown' hgr hgg hlt
  refine hk g cap w' hown' (fun A hA => ?_) (fun base2 e2 s2 n2 v2 ys hne h2 => own_other (h2.alloc _) hu2 hne hgr) (Nat.le_trans (by simp) hgr.size)
  refine (hA.alloc hbase _).grown hgr (by simp; omega) ?_
  intro k hk
  rcases hown.2 with ⟨rfl, _⟩ | ⟨g2, cap2, cur2, rfl, hb, _⟩
  · cases hk
  · cases hk; exact hb

/-- What a token's bytes say. -/
def tokT (l : List UInt8) (k : Nat) : List UInt8 :=
  if k = 3 then (unq (l.dropLast.drop 1)).getD [] else if k = 4 then (unhx ((l.dropLast.drop 2).map lowB)).getD [] else if k = 5 then l.drop 1 else l
theorem ba_eq {s : ByteArray} {l : List UInt8} (h : s.data.toList = l) : s = ⟨l.toArray⟩ := by
  subst h
  cases s with | mk d => simp
theorem bytV_parts (o : Option (List UInt8)) : ∃ b : Bool, bytV o = .tuple #[.string ⟨(o.getD []).toArray⟩, .bool b] := by
  cases o with
  | none => exact ⟨false, rfl⟩
  | some l => exact ⟨true, rfl⟩
end Go.Proofs.YtkooijhdjjdigabDoor
