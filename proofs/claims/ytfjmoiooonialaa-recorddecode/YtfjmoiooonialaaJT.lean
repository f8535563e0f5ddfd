/- The document's Decode. -/
import Derived.Test.YtfjmoiooonialaaJS
import Derived.Test.YtfjmoiooonialaaJQ
namespace Go.Proofs.Ytfjmoiooonialaa
open Go.ChangeShapes Go.WideShapes Go.ChangeAt Go.RowKit
set_option linter.unusedVariables false

/-- Numbers are appended to a row that is owned. -/
theorem wp_appU {ops : Array Oper} {rest : List Oper} {o : Oper} {a : Act} {Q : Exit → Act → World → Prop} {w : World} {base n : Nat} {v : Value} {xs : List Value} (hown : w.ownsRow base 22 1 v n xs) {ad : Addr} {m c : Nat} {news : List Value}
    (hl : news.length = m * 1) (hnews : ∀ j u, news[j]? = some u → w.cell? (ad.add j) = some u) (h1 : ∀ u ∈ news, u.oneCell' = true) (hn : (n + m) * 8 ≤ 140737488355328) (hbase : base ≤ w.heap.size) (s z : Operand)
    (hgd : o.guard = none) (ho : o.op = .call { callee := .builtin .append, args := #[s, z], argTypes := #[59, 59] }) (hs : a.eval s = v) (hz : a.eval z = .slice (some ad) m c)
    (hk : ∀ v' w', w'.ownsRow base 22 1 v' (n + m) (xs ++ news) → (v' = .slice none 0 0 ↔ v = .slice none 0 0 ∧ m = 0) → (∀ A, Below base A w → Below base A w') → wpList Try.prog ops Q rest (a.put o.dst v') w') : wpList Try.prog ops Q (o :: rest) a w := by
  obtain ⟨i, hi, hz0, hsz, hby⟩ := u64_info
  refine wpList_append_own w hgd s z 59 ho base 22 i _ 1 8 Try.underlying59 hi hz0 hsz hby rfl (by omega) v n xs hs hown ad m c news hz hl hnews h1 (by simp only [maxLen]; omega) hn hbase (fun v' w' h2 h3 h4 => hk v' w' h2 h4 (fun A hA => hA.grown h3 hbase (fun k e => ?_)))
  rcases hown.2 with ⟨rfl, _⟩ | ⟨g, cap, cur, rfl, hbg, _⟩
  · cases e
  · simp only [Value.ownBlock, Option.some.injEq] at e
    omega
def u64L (ts : List Nat) : List Value := ts.map fun t : Nat => Value.int .u64 (t : Int)
theorem one_cell (V : World) (v : Value) (T : TypeId) : ∀ j u, [v][j]? = some u → (V.alloc (.cells #[v] T)).cell? ((⟨V.heap.size, 0, none⟩ : Addr).add j) = some u := by
  intro j u hu
  have e : (⟨V.heap.size, 0, none⟩ : Addr).add j = ⟨V.heap.size, j, none⟩ := by unfold Addr.add; split <;> simp_all
  rw [e, blk_cell (heap_alloc_new V _)]
  simpa using hu
theorem three_cells (V : World) (a b c : Value) (T : TypeId) : ∀ j u, [a, b, c][j]? = some u → (V.alloc (.cells #[a, b, c] T)).cell? ((⟨V.heap.size, 0, none⟩ : Addr).add j) = some u := by
  intro j u hu
  have e : (⟨V.heap.size, 0, none⟩ : Addr).add j = ⟨V.heap.size, j, none⟩ := by unfold Addr.add; split <;> simp_all
  rw [e, blk_cell (heap_alloc_new V _)]
  simpa using hu
theorem one_u64 (t : Int) : ∀ u ∈ [Value.int .u64 t], u.oneCell' = true := by
  intro u hu
  simp at hu
  rw [hu]; rfl
theorem three_one (k n : Int) (A : ByteArray) : ∀ u ∈ [Value.int .i64 k, .int .i64 n, .string A], u.oneCell' = true := by
  intro u hu
  simp at hu
  rcases hu with rfl | rfl | rfl <;> rfl
theorem own_nil (w : World) (e size : Nat) (base : Nat) : w.ownsRow base e size (.slice none 0 0) 0 [] := by
  first | exact World.ownsRow_nil _ _ _ _ | exact ⟨by simp, Or.inl ⟨rfl, rfl⟩⟩
theorem own_len {w : World} {base e size n : Nat} {v : Value} {xs : List Value} (h : w.ownsRow base e size v n xs) : ∃ p c, v = .slice p n c := by
  rcases h.2 with ⟨rfl, h0⟩ | ⟨g, cap, cur, rfl, _⟩
  · exact ⟨none, 0, by rw [h0]⟩
  · exact ⟨_, _, rfl⟩
/-- What the document reads before it writes it anew. -/
def rvRd (l : List UInt8) : Option (List Val3 × List UInt8) :=
  if vrdN l = 0 ∨ 16 < vrdU l then none else match rdT (vrdU l) (l.drop (vrdN l)) with
    | none => none
    | some (ts, r) => rdF rvV ts r
theorem rvRd_no {l : List UInt8} (h : vrdN l = 0 ∨ 16 < vrdU l) : rvRd l = none := if_pos h
theorem rvRd_T {l : List UInt8} (h : rdT (vrdU l) (l.drop (vrdN l)) = none) : rvRd l = none := by
  unfold rvRd
  split
  · rfl
  · rw [h]
theorem rvRd_R {l : List UInt8} (h : ¬ (vrdN l = 0 ∨ 16 < vrdU l)) {ts : List Nat} {r : List UInt8} (hT : rdT (vrdU l) (l.drop (vrdN l)) = some (ts, r)) : rvRd l = rdF rvV ts r := by
  unfold rvRd
  rw [if_neg h, hT]
theorem rvRd_le {l : List UInt8} {x : List Val3 × List UInt8} (h : rowRd l = some x) : rvRd l = some x := by
  unfold rowRd at h
  unfold rvRd
  by_cases h0 : vrdN l = 0 ∨ 16 < vrdU l
  · rw [if_pos h0] at h; cases h
  rw [if_neg h0] at h ⊢
  cases hT : rdT (vrdU l) (l.drop (vrdN l)) with
  | none => rw [hT] at h; cases h
  | some q =>
    obtain ⟨ts, r⟩ := q
    rw [hT] at h
    simp only at h ⊢
    rw [rdR_F] at h
    exact rdF_le rdV_le ts r x h
/-- The document reads just what is written so. -/
theorem rv_all {l : List UInt8} : (∀ vs, rdAll l = some vs → rvRd l = some (vs, [])) ∧ (rdAll l = none → ∀ vs r, rvRd l = some (vs, r) → ¬ (vs.length ≤ 16 ∧ (∀ v ∈ vs, okV v) ∧ (encV vs).length ≤ 4000 ∧ encV vs = l)) := by
  refine ⟨fun vs h => rvRd_le ((rdAll_row l vs).1 h).2, fun h vs r hr ⟨h1, h2, h3, h4⟩ => ?_⟩
  have := (rdAll_iff l vs).2 ⟨by rw [← h4]; exact h3, h1, h2, h4⟩
  rw [h] at this
  cases this
theorem drop_take (l : List UInt8) (n : Nat) : ByteArray.extract ⟨l.toArray⟩ n l.length = ⟨(l.drop n).toArray⟩ := by
  have := extL l n
  rwa [szL] at this
theorem rvarint_any (l : List UInt8) (hs : l.length ≤ 140737488355328) (w : World) : Calls Try.prog 8 #[.string ⟨l.toArray⟩] w fun e w' => e = .returned (.tuple #[.int .u64 (vrdU l : Int), .int .i64 (vrdN l : Int)]) ∧ Below w.heap.size w w' := by
  obtain ⟨u, n, h⟩ : ∃ u n, beg l 0 0 = (u, n) := ⟨_, _, rfl⟩
  exact rvarint_walk ⟨l.toArray⟩ (by rw [szL]; exact hs) u n (by rw [toL]; exact h) _ _ (by rw [toL]) (by rw [toL]) w
/-- The cells of a list of values. -/
def vcL (vs : List Val3) : List Value := vs.flatMap fun v => [.int .i64 v.1, .int .i64 v.2.1, .string v.2.2]
theorem vcL_snoc (vs : List Val3) (k n : Int) (A : ByteArray) : vcL (vs ++ [(k, n, A)]) = vcL vs ++ [.int .i64 k, .int .i64 n, .string A] := by simp [vcL]
theorem u64L_snoc (ts : List Nat) (t : Nat) : u64L (ts ++ [t]) = u64L ts ++ [.int .u64 (t : Int)] := by simp [u64L]
theorem vcL_at (vs : List Val3) : ∀ i, i < vs.length → (vcL vs)[i * 3]? = some (.int .i64 (KV vs i)) ∧ (vcL vs)[i * 3 + 1]? = some (.int .i64 (NV vs i)) ∧ (vcL vs)[i * 3 + 2]? = some (.string (TV vs i)) := by
  induction vs with
  | nil => intro i hi; simp at hi
  | cons v vs ih =>
    intro i hi
    have e : vcL (v :: vs) = [.int .i64 v.1, .int .i64 v.2.1, .string v.2.2] ++ vcL vs := by simp [vcL]
    rw [e]
    cases i with
    | zero => exact ⟨rfl, rfl, rfl⟩
    | succ i =>
      obtain ⟨a, b, c⟩ := ih i (by simpa using hi)
      refine ⟨?_, ?_, ?_⟩
      · rw [List.getElem?_append_right (by simp; omega), show (i + 1) * 3 - [Value.int .i64 v.1, .int .i64 v.2.1, .string v.2.2].length = i * 3 by simp; omega, a]; simp [KV]
      · rw [List.getElem?_append_right (by simp; omega), show (i + 1) * 3 + 1 - [Value.int .i64 v.1, .int .i64 v.2.1, .string v.2.2].length = i * 3 + 1 by simp; omega, b]; simp [NV]
      · rw [List.getElem?_append_right (by simp; omega), show (i + 1) * 3 + 2 - [Value.int .i64 v.1, .int .i64 v.2.1, .string v.2.2].length = i * 3 + 2 by simp; omega, c]; simp [TV]
theorem add0 (g j : Nat) : (⟨g, 0, none⟩ : Addr).add j = ⟨g, j, none⟩ := by unfold Addr.add; split <;> simp_all
theorem own_rowP {w : World} {base n : Nat} {v : Value} {vs : List Val3} (h : w.ownsRow base 46 3 v n (vcL vs)) (hn : n = vs.length) : ∃ p c, v = .slice p vs.length c ∧ RowP w p vs.length (KV vs) (NV vs) (TV vs) := by
  subst hn
  rcases h.2 with ⟨rfl, h0⟩ | ⟨g, cap, cur, rfl, hbg, hg, hnc, hcm, hcs, htake⟩
  · exact ⟨none, 0, by rw [h0], fun hl => by omega⟩
  · have hc := h.cells (g := g) rfl
    refine ⟨_, _, rfl, fun _ => ⟨g, 0, rfl, fun i hi => ?_⟩⟩
    obtain ⟨a, b, c⟩ := vcL_at vs i hi
    rw [Nat.zero_add]
    have x0 := hc _ _ a
    have x1 := hc _ _ b
    have x2 := hc _ _ c
    rw [add0] at x0 x1 x2
    exact ⟨x0, x1, x2⟩
theorem own_u64 {w : World} {base n : Nat} {v : Value} {ts : List Nat} (h : w.ownsRow base 22 1 v n (u64L ts)) (hn : n = ts.length) : ∃ p c, v = .slice p ts.length c ∧ (∀ j, j < ts.length → ∃ g, p = some ⟨g, 0, none⟩ ∧ w.cell? ⟨g, j, none⟩ = some (.int .u64 ((ts.getD j 0 : Nat) : Int))) := by
  subst hn
  rcases h.2 with ⟨rfl, h0⟩ | ⟨g, cap, cur, rfl, hbg, hg, hnc, hcm, hcs, htake⟩
  · exact ⟨none, 0, by rw [h0], fun j hl => by omega⟩
  · have hc := h.cells (g := g) rfl
    refine ⟨_, _, rfl, fun j hj => ⟨g, rfl, ?_⟩⟩
    have x0 := hc j (.int .u64 ((ts.getD j 0 : Nat) : Int)) (by simp [u64L, hj])
    rwa [add0] at x0
/-- What the document's Encode answers of a row. -/
structure RIs (len : Nat) (K N : Nat → Int) (T : Nat → ByteArray) (x : ByteArray) (E : Int) : Prop where
  call : ∀ (p : Option Addr) (cap : Nat) (w : World), RowP w p len K N T → Calls Try.prog 14 #[.slice p len cap] w fun e w' => e = .returned (.tuple #[.string x, .int .i64 E]) ∧ Below w.heap.size w w'
  ok : E = 0 ↔ len ≤ 16 ∧ (∀ v ∈ rowV len K N T, okV v) ∧ (encV (rowV len K N T)).length ≤ 4000
  text : E = 0 → x = ⟨(encV (rowV len K N T)).toArray⟩
open Classical in
theorem renc_is (len : Nat) (K N : Nat → Int) (T : Nat → ByteArray) (hlen : len ≤ 140737488355328) (hin : ∀ i, i < len → InI (N i)) : ∃ x E, RIs len K N T x E := by
  by_cases hc : chk len K N T = 0
  · have hall : ∀ i, i < len → mayB (K i) (N i) (T i) = true := by
      intro i hi
      cases hm : mayB (K i) (N i) (T i) with
      | true => rfl
      | false => rw [chk_bad hi hm] at hc; cases hc
    have h16 : len ≤ 16 := by
      refine Nat.le_of_not_lt fun h => ?_
      rw [chk_long hall h] at hc; cases hc
    by_cases h4 : 4000 < (encL len K N T).length
    · exact ⟨⟨#[]⟩, 3, fun p cap w h => (rencode_ok p len cap K N T h16 hall hin w h).mono fun e w' ⟨h1, h2⟩ => ⟨by rw [h1, encR_long h4], h2⟩, ⟨fun h => (by cases h), fun h => by rw [encL_encV] at h4; omega⟩, fun h => by cases h⟩
    · exact ⟨⟨(encL len K N T).toArray⟩, 0, fun p cap w h => (rencode_ok p len cap K N T h16 hall hin w h).mono fun e w' ⟨h1, h2⟩ => ⟨by rw [h1, encR_ok h4], h2⟩, ⟨fun _ => ⟨h16, rowV_ok.2 fun i hi => ⟨hall i hi, hin i hi⟩, by rw [← encL_encV]; omega⟩, fun _ => rfl⟩, fun _ => by rw [encL_encV]⟩
  · refine ⟨⟨#[]⟩, chk len K N T, fun p cap w h => rencode_bad p len cap K N T hlen hc w h, ⟨fun h => absurd h hc, fun ⟨h1, h2, _⟩ => absurd (chk_ok (fun i hi => (rowV_ok.1 h2 i hi).1) (by omega)) hc⟩, fun h => absurd h hc⟩
theorem rvV_in {t : Nat} {s : ByteArray} {k n : Int} {A : ByteArray} {m : Nat} (h : rvV t s = some (k, n, A, m)) : InI n ∧ m ≤ s.size := by
  unfold rvV at h
  by_cases h0 : t = 0
  · rw [if_pos h0] at h
    simp only [Option.some.injEq, Prod.mk.injEq] at h
    obtain ⟨rfl, rfl, rfl, rfl⟩ := h
    exact ⟨by unfold InI; omega, by omega⟩
  rw [if_neg h0] at h
  by_cases h9 : t = 9 ∨ t = 10
  · rw [if_pos h9] at h
    simp only [Option.some.injEq, Prod.mk.injEq] at h
    obtain ⟨rfl, rfl, rfl, rfl⟩ := h
    exact ⟨by unfold InI; omega, by omega⟩
  rw [if_neg h9] at h
  by_cases h8 : t ≤ 8
  · rw [if_pos h8] at h
    by_cases hs : s.size < t
    · rw [if_pos hs] at h; cases h
    rw [if_neg hs] at h
    simp only [Option.some.injEq, Prod.mk.injEq] at h
    obtain ⟨rfl, rfl, rfl, rfl⟩ := h
    refine ⟨?_, by omega⟩
    have hL : (s.data.toList.take t).length ≤ 8 := by simp; omega
    generalize s.data.toList.take t = L at hL
    cases L with
    | nil => show InI 0; unfold InI; omega
    | cons b r =>
      have h1 := numB_range (sgnB b) 128 r (by have := sgnB_range b; omega)
      have h2 : r.length ≤ 7 := by simpa using hL
      show InI (numB (sgnB b) r)
      generalize r.length = q at h1 h2
      have h3 : (256 : Int) ^ q ≤ 72057594037927936 := by
        have : q = 0 ∨ q = 1 ∨ q = 2 ∨ q = 3 ∨ q = 4 ∨ q = 5 ∨ q = 6 ∨ q = 7 := by omega
        rcases this with rfl | rfl | rfl | rfl | rfl | rfl | rfl | rfl <;> decide
      unfold InI
      omega
  rw [if_neg h8] at h
  by_cases h11 : t = 11 ∨ 10000 < t
  · rw [if_pos h11] at h; cases h
  rw [if_neg h11] at h
  by_cases hs : s.size < (t - 12) / 2
  · rw [if_pos hs] at h; cases h
  rw [if_neg hs] at h
  simp only [Option.some.injEq, Prod.mk.injEq] at h
  obtain ⟨rfl, rfl, rfl, rfl⟩ := h
  exact ⟨by unfold InI; omega, by omega⟩
theorem rpost_bad {l : List UInt8} {w w' : World} (h : rdAll l = none) (hb : Below w.heap.size w w') :
    (∀ vs, rdAll l = some vs → ∃ p c, Ending.returned (.tuple #[.slice none 0 0, .int .i64 8]) = .returned (.tuple #[.slice p vs.length c, .int .i64 0]) ∧ RowP w' p vs.length (KV vs) (NV vs) (TV vs) ∧ Below w.heap.size w w') ∧ (rdAll l = none → Ending.returned (.tuple #[.slice none 0 0, .int .i64 8]) = .returned (.tuple #[.slice none 0 0, .int .i64 8]) ∧ Below w.heap.size w w') :=
  ⟨fun vs h' => (by rw [h] at h'; cases h'), fun _ => ⟨rfl, hb⟩⟩
theorem rdAll_no {l : List UInt8} (h : rvRd l = none) : rdAll l = none := by
  cases hr : rdAll l with
  | none => rfl
  | some vs => rw [rv_all.1 vs hr] at h; cases h
theorem InI_NV {vs : List Val3} (h : ∀ v ∈ vs, InI v.2.1) : ∀ i, i < vs.length → InI (NV vs i) := by
  intro i hi
  have := h _ (List.getElem_mem hi)
  simpa [NV, hi] using this
theorem own_later {w w' : World} {base e size n : Nat} {v : Value} {xs : List Value} (h : w.ownsRow base e size v n xs) (hb : Below w.heap.size w w') : w'.ownsRow base e size v n xs := by
  obtain ⟨h1, h2⟩ := h
  refine ⟨h1, ?_⟩
  rcases h2 with ⟨hv, h0⟩ | ⟨g, cap, cur, hv, hbg, hg, hnc, hcm, hcs, htake⟩
  · exact Or.inl ⟨hv, h0⟩
  · refine Or.inr ⟨g, cap, cur, hv, hbg, ?_, hnc, hcm, hcs, htake⟩
    rw [hb.block g (Array.getElem?_eq_some_iff.1 hg).1]
    exact hg
end Go.Proofs.Ytfjmoiooonialaa
