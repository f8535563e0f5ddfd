/- Rows of one's own, two at a time; the document's Bytes of a token. -/
import Derived.Test.YtkooijhdjjdigaaDoorKG
namespace Go.Proofs.YtkooijhdjjdigaaDoor
open Go.ChangeShapes Go.WideShapes Go.ChangeAt Go.RowKit
set_option linter.unusedVariables false

theorem below_trans {w w1 w2 : World} (h : Below w.heap.size w w1) (k : Below w1.heap.size w1 w2) : Below w.heap.size w w2 :=
  h.trans (k.mono h.size)
theorem ext_list (s : ByteArray) (a b : Nat) : (s.extract a b).data.toList = (s.data.toList.take b).drop a := by
  rw [ByteArray.data_extract, Array.toList_extract, List.extract_eq_take_drop, List.drop_take]
def InfoE (e size bytes : Nat) : Prop := ∃ i z, Tryd.prog.info? e = some i ∧ i.zero = some z ∧ i.size = size ∧ i.bytes = bytes ∧ z.cells.size = size
theorem infoE_of {e size bytes : Nat} (h : (Tryd.prog.info? e).map (fun i => (i.zero.map (fun z => z.cells.size), i.size, i.bytes)) = some (some size, size, bytes)) : InfoE e size bytes := by
  obtain ⟨i, h1, h2⟩ := Option.map_eq_some_iff.1 h
  simp only [Prod.mk.injEq] at h2
  obtain ⟨z, h3, h4⟩ := Option.map_eq_some_iff.1 h2.1
  exact ⟨i, z, h1, h3, h2.2.1, h2.2.2, h4⟩
theorem infoTok : InfoE 39 3 32 := infoE_of (by kernel_rfl)
theorem infoInt : InfoE 3 1 8 := infoE_of (by kernel_rfl)
theorem infoStr : InfoE 9 1 16 := infoE_of (by kernel_rfl)
theorem own_other {w w' : World} {base base2 e e2 size s2 n n2 : Nat} {v v2 : Value} {xs ys : List Value} (h : w.ownsRow base e size v n xs) (h2 : w.ownsRow base2 e2 s2 v2 n2 ys) (hne : e ≠ e2) (hg : w.grownBy w' v2.ownBlock) : w'.ownsRow base e size v n xs := by
  refine ⟨h.1, ?_⟩
  rcases h.2 with hn | ⟨g, cap, cur, hv, hb, hgg, rest⟩
  · exact .inl hn
  · refine .inr ⟨g, cap, cur, hv, hb, (hg.block g (Array.getElem?_eq_some_iff.1 hgg).1 ?_).trans hgg, rest⟩
    rcases h2.2 with ⟨rfl, _⟩ | ⟨g2, cap2, cur2, rfl, _, hg2, _⟩
    · intro e; cases e
    · intro e
      injection e with e
      subst e
      have := hgg.symm.trans hg2
      injection this with this
      injection this with _ e3 _
      exact hne e3
theorem own_below {w w' : World} {base e size n : Nat} {v : Value} {xs : List Value} (h : w.ownsRow base e size v n xs) (hb : Below w.heap.size w w') : w'.ownsRow base e size v n xs := by
  refine ⟨h.1, ?_⟩
  rcases h.2 with hn | ⟨g, cap, cur, hv, hbg, hgg, rest⟩
  · exact .inl hn
  · exact .inr ⟨g, cap, cur, hv, hbg, (hb.block g (Array.getElem?_eq_some_iff.1 hgg).1).trans hgg, rest⟩
theorem wp_appT (t e size bytes : Nat) {ops : Array Oper} {rest : List Oper} {o : Oper} {a : Act} {Q : Exit → Act → World → Prop} {W : World} {base n m : Nat} {v : Value} {xs : List Value} (hu : Tryd.prog.underlying t = some (.slice e)) (hinf : InfoE e size bytes) (hpos : 0 < size)
    (news : List Value) (hl : news.length = m * size) (hm : 0 < m) (hone : ∀ u ∈ news, u.oneCell' = true) (hown : W.ownsRow base e size v n xs) (hn : (n + m) * bytes ≤ 140737488355328) (hn2 : n + m ≤ 140737488355328) (hbase : base ≤ W.heap.size) (s x : Operand)
    (hgd : o.guard = none) (ho : o.op = .call { callee := .builtin .append, args := #[s, x], argTypes := #[t, t] }) (hs : a.eval s = v) (hx : a.eval x = .slice (some ⟨W.heap.size, 0, none⟩) m m)
    (hk : ∀ g cap w', w'.ownsRow base e size (.slice (some ⟨g, 0, none⟩) (n + m) cap) (n + m) (xs ++ news) → (∀ A, Below base A W → Below base A w') → (∀ base2 e2 s2 n2 v2 ys, e2 ≠ e → W.ownsRow base2 e2 s2 v2 n2 ys → w'.ownsRow base2 e2 s2 v2 n2 ys) → W.heap.size ≤ w'.heap.size → wpList Tryd.prog ops Q rest (a.put o.dst (.slice (some ⟨g, 0, none⟩) (n + m) cap)) w') :
    wpList Tryd.prog ops Q (o :: rest) a (W.alloc (.cells news.toArray e)) := by
  obtain ⟨i, z, hi, hz0, hz1, hz2, hz3⟩ := hinf
  have hu2 := hown.alloc (.cells news.toArray e)
  refine wpList_append_lies _ hgd s x t ho base e i z size bytes hu hi hz0 hz1 hz2 hz3 hpos v n xs hs hu2 ⟨W.heap.size, 0, none⟩ m m news hx hl (World.news_of_block (cs := news.toArray) (t := e) (fr := (0, 0)) (heap_alloc_new W _)) hone hm (by simp only [maxLen]; omega) hn (by simp; omega) _ rfl ?_
  intro g cap w' hown' hgr hgg hlt
  refine hk g cap w' hown' (fun A hA => ?_) (fun base2 e2 s2 n2 v2 ys hne h2 => own_other (h2.alloc _) hu2 hne hgr) (Nat.le_trans (by simp) hgr.size)
  refine (hA.alloc hbase _).grown hgr (by simp; omega) ?_
  intro k hk
  rcases hown.2 with ⟨rfl, _⟩ | ⟨g2, cap2, cur2, rfl, hb, _⟩
  · cases hk
  · cases hk; exact hb

/-- What a token's bytes say. -/
def tokT (l : List UInt8) (k : Nat) : List UInt8 :=
  if k = 3 then (unq (l.dropLast.drop 1)).getD [] else if k = 4 then (unhx ((l.dropLast.drop 2).map lowB)).getD [] else if k = 5 then l.drop 1 else l
theorem ba_eq {s : ByteArray} {l : List UInt8} (h : s.data.toList = l) : s = ⟨l.toArray⟩ := by
  subst h
  cases s with | mk d => simp
theorem bytV_parts (o : Option (List UInt8)) : ∃ b : Bool, bytV o = .tuple #[.string ⟨(o.getD []).toArray⟩, .bool b] := by
  cases o with
  | none => exact ⟨false, rfl⟩
  | some l => exact ⟨true, rfl⟩
set_option maxHeartbeats 1000000 in
set_option maxRecDepth 10000 in
theorem rbytes_e (s : ByteArray) (hs : s.size ≤ 140737488351232) (k : Nat) (h3 : k = 3 → 2 ≤ s.size) (h4 : k = 4 → 3 ≤ s.size) (h5 : k = 5 → 1 ≤ s.size) (w : World) :
    Calls Tryd.prog 27 #[.string s, .int .i64 (k : Int)] w fun e w' => e = .returned (.string ⟨(tokT s.data.toList k).toArray⟩) ∧ Below w.heap.size w w' := by
  have hw1 : IntKind.i64.wrap ((s.size : Int) - 1) = (s.size : Int) - 1 := by rw [IntKind.wrap_i64]; omega
  have m1 : ((s.size : Int) - 1).toNat = s.size - 1 := by omega
  have m5 : (s.size : Int) - 1 ≤ (s.size : Int) := by omega
  have hdl : s.data.toList.take (s.size - 1) = s.data.toList.dropLast := by rw [List.dropLast_eq_take]; simp
  by_cases k3 : k = 3
  · have hsz := h3 k3
    have m2 : (1 : Int) ≤ (s.size : Int) - 1 := by omega
    have hx := ext_list s 1 (s.size - 1)
    rw [hdl] at hx
    have hB := fun V => bytes_text (s.extract 1 (s.size - 1)) (by rw [ByteArray.size_extract]; omega) V
    rw [hx] at hB
    obtain ⟨b, hb⟩ := bytV_parts (unq (s.data.toList.dropLast.drop 1))
    rw [hb] at hB
    have HB := hide hB
    have e : tokT s.data.toList k = (unq (s.data.toList.dropLast.drop 1)).getD [] := by rw [tokT, if_pos k3]
    rw [e]
    subst k3
    generalize (unq (s.data.toList.dropLast.drop 1)).getD [] = L at *
    clear hB hb hx hdl h3 h4 h5 e
    go_enter Tryd.func27, Tryd.ntmps27
    go_wp2_with (first
      | (go_at_call 48; (with_reducible refine Calls.mono (HB.out _) ?_); rintro e w5 ⟨rfl, hb5⟩; have HB5 := hide hb5; clear hb5))
    go_ret
    exact ⟨rfl, HB5.out⟩
  · have k3f : ((k : Int) == 3) = false := by simp; omega
    by_cases k4 : k = 4
    · have hsz := h4 k4
      have m2 : (2 : Int) ≤ (s.size : Int) - 1 := by omega
      have hx := ext_list s 2 (s.size - 1)
      rw [hdl] at hx
      have hF := fun V => fold_low (s.extract 2 (s.size - 1)) (by rw [ByteArray.size_extract]; omega) V
      rw [hx] at hF
      have hB := fun V => bytes_blob ⟨(((s.data.toList.dropLast).drop 2).map lowB).toArray⟩ (by show Array.size _ ≤ _; simp; omega) V
      obtain ⟨b, hb⟩ := bytV_parts (unhx ((s.data.toList.dropLast.drop 2).map lowB))
      have hB2 : ∀ V, Calls Tryd.prog 48 #[.string ⟨(((s.data.toList.dropLast).drop 2).map lowB).toArray⟩, .bool true] V fun e w' => e = .returned (.tuple #[.string ⟨((unhx ((s.data.toList.dropLast.drop 2).map lowB)).getD []).toArray⟩, .bool b]) ∧ Below V.heap.size V w' := fun V => (hB V).mono fun e w' h => ⟨by rw [h.1, ← hb], h.2⟩
      clear hB
      obtain ⟨F, hFe⟩ : ∃ F : ByteArray, (⟨(((s.data.toList.dropLast).drop 2).map lowB).toArray⟩ : ByteArray) = F := ⟨_, rfl⟩
      rw [hFe] at hF hB2
      clear hFe
      have HB := hide hB2
      have HF := hide hF
      have e : tokT s.data.toList k = (unhx ((s.data.toList.dropLast.drop 2).map lowB)).getD [] := by rw [tokT, if_neg k3, if_pos k4]
      rw [e]
      subst k4
      generalize (unhx ((s.data.toList.dropLast.drop 2).map lowB)).getD [] = L at *
      clear hB2 hb hx hdl h3 h4 h5 e hF k3
      go_enter Tryd.func27, Tryd.ntmps27
      go_wp2_with (first
        | (go_at_call 32; (with_reducible refine Calls.mono (HF.out _) ?_); rintro e w5 ⟨rfl, hb5⟩; have HB5 := hide hb5; clear hb5)
        | (go_at_call 48; (with_reducible refine Calls.mono (HB.out _) ?_); rintro e w6 ⟨rfl, hb6⟩; have HB6 := hide hb6; clear hb6))
      go_ret
      exact ⟨rfl, below_trans HB5.out HB6.out⟩
    · have k4f : ((k : Int) == 4) = false := by simp; omega
      by_cases k5 : k = 5
      · have hsz := h5 k5
        have m2 : (1 : Int) ≤ (s.size : Int) := by omega
        have hx := ext_list s 1 s.size
        rw [List.take_of_length_le (by simp)] at hx
        have e : tokT s.data.toList k = s.data.toList.drop 1 := by rw [tokT, if_neg k3, if_neg k4, if_pos k5]
        rw [e, ← ba_eq hx]
        subst k5
        clear h3 h4 h5 e hx hdl k3 k4 k3f k4f
        go_enter Tryd.func27, Tryd.ntmps27
        go_wp2
        go_ret
        exact ⟨rfl, Below.refl _ _⟩
      · have k5f : ((k : Int) == 5) = false := by simp; omega
        have e : tokT s.data.toList k = s.data.toList := by rw [tokT, if_neg k3, if_neg k4, if_neg k5]
        rw [e, ← ba_eq (s := s) rfl]
        clear h3 h4 h5 e hdl k3 k4 k5
        go_enter Tryd.func27, Tryd.ntmps27
        go_wp2
        go_ret
        exact ⟨rfl, Below.refl _ _⟩
end Go.Proofs.YtkooijhdjjdigaaDoor
