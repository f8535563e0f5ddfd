/- The document's Read of any page. -/
import Derived.Test.YthhoeabenngiiaaNA
import Derived.Test.YthhoeabenngiiaaGT
import Derived.Laws.Concat
import Derived.Lib.ItoaWalk
namespace Go.Proofs.Ythhoeabenngiiaa
open Go.ChangeShapes Go.WideShapes Go.ChangeAt Go.RowKit
set_option linter.unusedVariables false

theorem body_info4 : (Try.prog.info? 27).map (·.size) = some 4 := by kernel_rfl
theorem ret_body {W : World} {g j : Nat} {fn : Func} (hres : fn.results = #[.cell j 27]) {tmps : Array Value} (ht : tmps.getD j undef = .pointer (some ⟨g, 0, none⟩)) {a b c d : Value}
    (hg : W.heap[g]? = some (.cells #[a, b, c, d] 27 (0, 0))) {R : Ending → World → Prop} (h : R (.returned (.agg #[a, b, c, d])) W) : bodyPost Try.prog fn R Exit.ret { tmps := tmps, defers := [] } W :=
  bodyPost_ret (v := .agg #[a, b, c, d]) (results_cell_row hres _ _ g 27 _ (0, 0) _ ht hg Try.underlying27 rfl (by kernel_rfl)) rfl h
/-- Memory when the document reads a page. -/
structure RdM (w W : World) (l : List UInt8) (k L : Int) (sv : Value) : Prop where
  page : PAt W w.heap.size l
  res : W.heap[w.heap.size + 1]? = some (bodyC false 0 0 (.slice none 0 0))
  body : W.heap[w.heap.size + 2]? = some (bodyC false k L sv)
  below : Below w.heap.size w W
theorem RdM.later {w W V : World} {l : List UInt8} {k L : Int} {sv : Value} (h : RdM w W l k L sv) (hb : Below W.heap.size W V) : RdM w V l k L sv where
  page := h.page.later hb
  res := (hb.block _ (Array.getElem?_eq_some_iff.1 h.res).1).trans h.res
  body := (hb.block _ (Array.getElem?_eq_some_iff.1 h.body).1).trans h.body
  below := below_trans h.below hb
theorem cell_block {w : World} {b : Nat} {cs : Array Value} {t : TypeId} (h : w.heap[b]? = some (.cells cs t (0, 0))) (i : Nat) : w.cell? ⟨b, i, none⟩ = cs[i]? := by
  unfold World.cell?
  simp only [h]
  rfl
theorem froz_block {w : World} {b : Nat} {cs : Array Value} {t : TypeId} (h : w.heap[b]? = some (.cells cs t (0, 0))) (i : Nat) : w.frozen? ⟨b, i, none⟩ = false := by simp [World.frozen?, h]
theorem read_start (w : World) (l : List UInt8) (k L : Int) : RdM w (((w.alloc (.cells (bc l) 23)).alloc (bodyC false 0 0 (.slice none 0 0))).alloc (bodyC false k L (.slice none 0 0))) l k L (.slice none 0 0) where
  page := ((PAt.new w l).later (new_below _ _ rfl)).later (new_below _ _ rfl)
  res := by
    rw [Below.heap_alloc _ _ _ (by simp)]
    have := heap_alloc_new (w.alloc (.cells (bc l) 23)) (bodyC false 0 0 (.slice none 0 0))
    simpa using this
  body := by
    have := heap_alloc_new ((w.alloc (.cells (bc l) 23)).alloc (bodyC false 0 0 (.slice none 0 0))) (bodyC false k L (.slice none 0 0))
    simpa using this
  below := below_trans (below_trans (new_below w _ rfl) (new_below _ _ rfl)) (new_below _ _ rfl)
theorem RdM.grown {w W V : World} {l : List UInt8} {k L : Int} {sv : Value} (h : RdM w W l k L sv) (hb : Below (w.heap.size + 3) W V) : RdM w V l k L sv where
  page := (hb.block _ (by omega)).trans h.page
  res := (hb.block _ (by omega)).trans h.res
  body := (hb.block _ (by omega)).trans h.body
  below := h.below.trans (hb.mono (by omega))
theorem RdM.put {w W : World} {l : List UInt8} {k L : Int} {sv : Value} (h : RdM w W l k L sv) (v : Value) : RdM w (W.setCell ⟨w.heap.size + 2, 3, none⟩ v) l k L v where
  page := (Below.heap_setCell _ _ _ _ (by simp)).trans h.page
  res := (Below.heap_setCell _ _ _ _ (by simp)).trans h.res
  body := set_block h.body 3 v
  below := h.below.setCell (by show w.heap.size ≤ w.heap.size + 2; omega) _
theorem own_laterS {w w' : World} {base e size n : Nat} {v : Value} {xs : List Value} (h : w.ownsRow base e size v n xs) (hb : Below w.heap.size w w') : w'.ownsRow base e size v n xs := own_later h hb
theorem own_form {w : World} {base e size n : Nat} {v : Value} {xs : List Value} (h : w.ownsRow base e size v n xs) : ∃ p c, v = .slice p n c := by
  rcases h.2 with ⟨rfl, h0⟩ | ⟨g, cap, cur, rfl, _⟩
  · exact ⟨none, 0, by rw [h0]⟩
  · exact ⟨_, _, rfl⟩
theorem own_set {w : World} {base e size n : Nat} {v : Value} {xs : List Value} (h : w.ownsRow base e size v n xs) {g i : Nat} (hg : g < base) (x : Value) : (w.setCell ⟨g, i, none⟩ x).ownsRow base e size v n xs := by
  obtain ⟨h1, h2⟩ := h
  refine ⟨h1, ?_⟩
  rcases h2 with ⟨hv, h0⟩ | ⟨g', cap, cur, hv, hbg, hg', hnc, hcm, hcs, htake⟩
  · exact Or.inl ⟨hv, h0⟩
  · refine Or.inr ⟨g', cap, cur, hv, hbg, ?_, hnc, hcm, hcs, htake⟩
    rw [Below.heap_setCell _ _ _ _ (by show g' ≠ g; omega)]
    exact hg'
theorem own_alloc {w : World} {base e size n : Nat} {v : Value} {xs : List Value} (h : w.ownsRow base e size v n xs) (o : Obj) : (w.alloc o).ownsRow base e size v n xs := h.alloc o
/-- Texts are appended to a row that is owned. -/
theorem wp_appS {ops : Array Oper} {rest : List Oper} {o : Oper} {a : Act} {Q : Exit → Act → World → Prop} {w : World} {base n : Nat} {v : Value} {xs : List Value} (hown : w.ownsRow base 9 1 v n xs) {ad : Addr} {m c : Nat} {news : List Value}
    (hl : news.length = m * 1) (hnews : ∀ j u, news[j]? = some u → w.cell? (ad.add j) = some u) (h1 : ∀ u ∈ news, u.oneCell' = true) (hn : (n + m) * 16 ≤ 140737488355328) (hbase : base ≤ w.heap.size) (s z : Operand)
    (hgd : o.guard = none) (ho : o.op = .call { callee := .builtin .append, args := #[s, z], argTypes := #[25, 25] }) (hs : a.eval s = v) (hz : a.eval z = .slice (some ad) m c)
    (hk : ∀ v' w', w'.ownsRow base 9 1 v' (n + m) (xs ++ news) → (v' = .slice none 0 0 ↔ v = .slice none 0 0 ∧ m = 0) → (∀ A, Below base A w → Below base A w') → wpList Try.prog ops Q rest (a.put o.dst v') w') : wpList Try.prog ops Q (o :: rest) a w := by
  obtain ⟨i, hi, hz0, hsz, hby⟩ := str_info
  refine wpList_append_own w hgd s z 25 ho base 9 i _ 1 16 Try.underlying25 hi hz0 hsz hby rfl (by omega) v n xs hs hown ad m c news hz hl hnews h1 (by simp only [maxLen]; omega) hn hbase (fun v' w' h2 h3 h4 => hk v' w' h2 h4 (fun A hA => hA.grown h3 hbase (fun k e => ?_)))
  rcases hown.2 with ⟨rfl, _⟩ | ⟨g, cap, cur, rfl, hbg, _⟩
  · cases e
  · simp only [Value.ownBlock, Option.some.injEq] at e
    omega
theorem add0 (g j : Nat) : (⟨g, 0, none⟩ : Addr).add j = ⟨g, j, none⟩ := by unfold Addr.add; split <;> simp_all
theorem one_cell (V : World) (v : Value) (T : TypeId) : ∀ j u, [v][j]? = some u → (V.alloc (.cells #[v] T)).cell? ((⟨V.heap.size, 0, none⟩ : Addr).add j) = some u := by
  intro j u hu
  rw [add0, cell_block (heap_alloc_new V _)]
  simpa using hu
theorem one_str (s : ByteArray) : ∀ u ∈ [Value.string s], u.oneCell' = true := by
  intro u hu
  simp at hu
  rw [hu]; rfl
theorem strL_snoc (n : Nat) (S : Nat → ByteArray) : strL (n + 1) S = strL n S ++ [.string (S n)] := by simp [strL, List.range_succ]
theorem own_str {w : World} {base n : Nat} {v : Value} {S : Nat → ByteArray} (h : w.ownsRow base 9 1 v n (strL n S)) : ∃ p c, v = .slice p n c ∧ (n ≤ c ∧ (p = none → c = 0)) ∧ (0 < n → ∃ g, p = some ⟨g, 0, none⟩ ∧ StrAt w g 0 n S) := by
  rcases h.2 with ⟨rfl, h0⟩ | ⟨g, cap, cur, rfl, hbg, hg, hnc, hcm, hcs, htake⟩
  · exact ⟨none, 0, by rw [h0], ⟨by omega, fun _ => rfl⟩, fun hl => by omega⟩
  · have hc := h.cells (g := g) rfl
    refine ⟨_, _, rfl, ⟨hnc, fun e => by cases e⟩, fun _ => ⟨g, rfl, fun i hi => ?_⟩⟩
    have x0 := hc i _ (strL_at hi)
    rw [add0] at x0
    rw [Nat.zero_add]
    exact x0
theorem lnk_int (l : List UInt8) : (byt l 2 : Int) * 16777216 + (byt l 3 : Int) * 65536 + (byt l 4 : Int) * 256 + (byt l 5 : Int) = (lnk l : Int) := by unfold lnk; omega
/-- A byte as a text. -/
theorem conv_one (V : World) (b : Nat) (hb : b < 256) : (convert 60 9 (.slice (some ⟨V.heap.size, 0, none⟩) 1 1)).run Try.prog (V.alloc (.cells #[.int .u8 (b : Int)] 5)) = .ok (.string ⟨#[UInt8.ofNat b]⟩) (V.alloc (.cells #[.int .u8 (b : Int)] 5)) := by
  refine conv_piece _ V.heap.size 0 1 [UInt8.ofNat b] (fun j hj => ?_)
  have hj0 : j = 0 := by simpa using hj
  subst hj0
  rw [cell_of_row _ _ _ _ _ _ (heap_alloc_new V _)]
  simp [byt]
  omega
theorem cat_one (l : List UInt8) (hl : l.length = 256) (a q : Nat) (h : a + q < 256) (V : World) : (Op.stringOp BinOp.add ⟨(sub l a q).toArray⟩ ⟨#[UInt8.ofNat (byt l (a + q))]⟩).run Try.prog V = .ok (.string ⟨(sub l a (q + 1)).toArray⟩) V := by
  have e : (⟨(sub l a q).toArray⟩ : ByteArray) ++ (⟨#[UInt8.ofNat (byt l (a + q))]⟩ : ByteArray) = ⟨(sub l a (q + 1)).toArray⟩ := by
    apply ByteArray.ext
    rw [sub_add, sub_one (by omega)]
    simp
  rw [← e]
  refine run_string_add_sum V _ _ ?_
  have : (sub l a q).length = q := sub_length (by omega)
  simp only [ByteArray.size, List.size_toArray]
  rw [this]
  simp
  omega
theorem bl_alx {w V : World} (h : Below w.heap.size w V) (o : Obj) : Below w.heap.size w (V.alloc o) := h.alloc h.size o
theorem rpost_no {l : List UInt8} {w w' : World} (h : ¬ okB l) (hb : Below w.heap.size w w') :
    (okB l → ∃ p, (∃ c, Ending.returned (bodyV false 0 0 (.slice none 0 0)) = .returned (bodyV true (byt l 0 : Int) (lnk l : Int) (.slice p (byt l 1) c)) ∧ byt l 1 ≤ c ∧ (p = none → c = 0)) ∧ (0 < byt l 1 → ∃ g, p = some ⟨g, 0, none⟩ ∧ StrAt w' g 0 (byt l 1) (cellS l)) ∧ Below w.heap.size w w') ∧ (¬ okB l → Ending.returned (bodyV false 0 0 (.slice none 0 0)) = .returned (bodyV false 0 0 (.slice none 0 0)) ∧ Below w.heap.size w w') :=
  ⟨fun h' => absurd h' h, fun _ => ⟨rfl, hb⟩⟩
theorem res4 {w : World} {b : Nat} {x0 x1 x2 x3 : Value} {T : TypeId} (h : w.heap[b]? = some (.cells #[x0, x1, x2, x3] T (0, 0))) :
    (w.cell? ⟨b, 0, none⟩ = some x0 ∧ w.cell? ⟨b, 1, none⟩ = some x1 ∧ w.cell? ⟨b, 2, none⟩ = some x2 ∧ w.cell? ⟨b, 3, none⟩ = some x3) ∧ w.frozen? ⟨b, 0, none⟩ = false ∧ w.frozen? ⟨b, 1, none⟩ = false ∧ w.frozen? ⟨b, 2, none⟩ = false ∧ w.frozen? ⟨b, 3, none⟩ = false :=
  ⟨⟨by rw [cell_block h]; rfl, by rw [cell_block h]; rfl, by rw [cell_block h]; rfl, by rw [cell_block h]; rfl⟩, froz_block h 0, froz_block h 1, froz_block h 2, froz_block h 3⟩
theorem set4 {w : World} {b : Nat} {x0 x1 x2 x3 : Value} {T : TypeId} (h : w.heap[b]? = some (.cells #[x0, x1, x2, x3] T (0, 0))) (y0 y1 y2 y3 : Value) : ((((w.setCell ⟨b, 0, none⟩ y0).setCell ⟨b, 1, none⟩ y1).setCell ⟨b, 2, none⟩ y2).setCell ⟨b, 3, none⟩ y3).heap[b]? = some (.cells #[y0, y1, y2, y3] T (0, 0)) :=
  set_block (set_block (set_block (set_block h 0 y0) 1 y1) 2 y2) 3 y3
theorem below4 {B : Nat} {w W : World} (h : Below B w W) {b : Nat} (hb : B ≤ b) (y0 y1 y2 y3 : Value) : Below B w ((((W.setCell ⟨b, 0, none⟩ y0).setCell ⟨b, 1, none⟩ y1).setCell ⟨b, 2, none⟩ y2).setCell ⟨b, 3, none⟩ y3) :=
  (((h.setCell hb _).setCell hb _).setCell hb _).setCell hb _

theorem ret_no {w W : World} {l : List UInt8} {k L : Int} {sv : Value} (hm : RdM w W l k L sv) (hno : ¬ okB l) {tmps : Array Value} (ht : tmps.getD 2 undef = .pointer (some ⟨w.heap.size + 1, 0, none⟩)) :
    bodyPost Try.prog Try.f8 (fun e w' => (okB l → ∃ p, (∃ c, e = .returned (bodyV true (byt l 0 : Int) (lnk l : Int) (.slice p (byt l 1) c)) ∧ byt l 1 ≤ c ∧ (p = none → c = 0)) ∧ (0 < byt l 1 → ∃ g, p = some ⟨g, 0, none⟩ ∧ StrAt w' g 0 (byt l 1) (cellS l)) ∧ Below w.heap.size w w') ∧ (¬ okB l → e = .returned (bodyV false 0 0 (.slice none 0 0)) ∧ Below w.heap.size w w')) Exit.ret { tmps := tmps, defers := [] } ((((W.setCell ⟨w.heap.size + 1, 0, none⟩ (.bool false)).setCell ⟨w.heap.size + 1, 1, none⟩ (.int .i64 0)).setCell ⟨w.heap.size + 1, 2, none⟩ (.int .u32 0)).setCell ⟨w.heap.size + 1, 3, none⟩ (.slice none 0 0)) :=
  ret_body Try.results8 ht (set4 hm.res _ _ _ _) (rpost_no hno (below4 hm.below (show w.heap.size ≤ w.heap.size + 1 by omega) _ _ _ _))

set_option maxHeartbeats 4000000 in
set_option maxRecDepth 10000 in
theorem rread_walk (l : List UInt8) (hl : l.length = 256) (w : World) :
    Calls Try.prog 8 #[.agg (bc l)] w fun e w' => (okB l → ∃ p, (∃ c, e = .returned (bodyV true (byt l 0 : Int) (lnk l : Int) (.slice p (byt l 1) c)) ∧ byt l 1 ≤ c ∧ (p = none → c = 0)) ∧ (0 < byt l 1 → ∃ g, p = some ⟨g, 0, none⟩ ∧ StrAt w' g 0 (byt l 1) (cellS l)) ∧ Below w.heap.size w w') ∧ (¬ okB l → e = .returned (bodyV false 0 0 (.slice none 0 0)) ∧ Below w.heap.size w w') := by
  have b0 := byt_lt l 0
  have b1 := byt_lt l 1
  have b2 := byt_lt l 2
  have b3 := byt_lt l 3
  have b4 := byt_lt l 4
  have b5 := byt_lt l 5
  have z0 := bc_get (l := l) (k := 0) (by omega)
  have z1 := bc_get (l := l) (k := 1) (by omega)
  have z2 := bc_get (l := l) (k := 2) (by omega)
  have z3 := bc_get (l := l) (k := 3) (by omega)
  have z4 := bc_get (l := l) (k := 4) (by omega)
  have z5 := bc_get (l := l) (k := 5) (by omega)
  have HL := hide hl
  go_enter Try.func8, Try.ntmps8
  go_upto_region 3 with fail
  rw [lnk_int]
  have HM0 := hide (read_start w l (byt l 0 : Int) (lnk l : Int))
  go_name_world W0 hW0
  rw [hW0] at HM0
  clear hW0 z0 z1 z2 z3 z4 z5 b2 b3 b4 b5
  by_cases hA : 5 < byt l 0 ∨ 256 < 6 + byt l 1
  · have HNo : Hid (¬ okB l) := fun h => by have h1 := h.1; have h2 := h.2.1; omega
    obtain ⟨⟨c0, c1, c2, c3⟩, f0, f1, f2, f3⟩ := res4 HM0.out.res
    obtain ⟨⟨d0, d1, d2, d3⟩, _⟩ := res4 HM0.out.body
    by_cases h5 : 5 < byt l 0
    · have t5 : (5 : Int) < (byt l 0 : Int) := by omega
      clear hA h5 hl
      go_wp2_with fail
      exact ret_no HM0.out HNo.out (by rfl)
    · have t5 : ¬ (5 : Int) < (byt l 0 : Int) := by omega
      have g5 : decide ((5 : Int) < (byt l 0 : Int)) = false := by simp; omega
      have t6 : (256 : Int) < 6 + (byt l 1 : Int) := by omega
      clear hA h5 hl
      go_wp2_with fail
      exact ret_no HM0.out HNo.out (by rfl)
  have HA := hide hA
  have t5 : ¬ (5 : Int) < (byt l 0 : Int) := by omega
  have g5 : decide ((5 : Int) < (byt l 0 : Int)) = false := by simp; omega
  have t6 : ¬ (256 : Int) < 6 + (byt l 1 : Int) := by omega
  obtain ⟨⟨d0, d1, d2, d3⟩, _⟩ := res4 HM0.out.body
  clear hA
  go_wp2_with fail
  clear d0 d1 d2 d3
  go_loopw [4, 5] (fun av iv wr => ∃ (j : Nat) (sv : Value), j ≤ byt l 1 ∧ iv = .int .i64 (j : Int) ∧ av = .int .i64 (stN l j : Int) ∧ (∀ i, i < j → byt l (6 + i) ≠ 0 ∧ byt l (6 + i) ≤ 60) ∧ stN l j ≤ 256 ∧ RdM w wr l (byt l 0 : Int) (lnk l : Int) sv ∧ wr.ownsRow (w.heap.size + 3) 9 1 sv j (strL j (cellS l))) (fun _ iv _ => byt l 1 - (intOf iv).toNat)
  case atStart => exact ⟨0, _, Nat.zero_le _, rfl, by simp [stN, sm], fun i hi => by omega, by have := HA.out; simp only [stN, sm]; omega, HM0.out, World.ownsRow_nil _ _ _ _⟩
  case round =>
    obtain ⟨j, sv, hj, rfl, rfl, hok, hst, hm, hown⟩ := hrel
    have HOk := hide hok
    have HM := hide hm
    have HOw := hide hown
    clear hok hm hown HM0
    by_cases hlt : j < byt l 1
    · have l1 : (j : Int) < (byt l 1 : Int) := by omega
      have l0 : (0 : Int) ≤ (j : Int) := by omega
      have hw1 : IntKind.i64.wrap ((j : Int) + 1) = (j : Int) + 1 := by rw [IntKind.wrap_i64]; omega
      have hn := HA.out
      have hbm := byt_lt l (6 + j)
      have c1 := HM.out.page.cell (k := 1) (by rw [HL.out]; omega)
      have c6 := HM.out.page.cell (k := 6 + j) (by rw [HL.out]; omega)
      have l6 : (6 : Int) + (j : Int) < 256 := by omega
      obtain ⟨⟨e0, e1, e2, e3⟩, f0, f1, f2, f3⟩ := res4 HM.out.res
      by_cases hbad : byt l (6 + j) < 1 ∨ 60 < byt l (6 + j) ∨ 256 < stN l j + byt l (6 + j)
      · have HNo : Hid (¬ okB l) := fun h => by
          have h1 := h.2.2.1 j hlt
          have h2 := h.2.2.2.1
          have h3 := stN_mono l (show j + 1 ≤ byt l 1 by omega)
          rw [stN_succ] at h3
          have h4 : stN l (byt l 1) = endN l := rfl
          omega
        by_cases hb1 : byt l (6 + j) < 1
        · have t1 : (byt l (6 + j) : Int) < 1 := by omega
          clear hbad hb1 hn hst
          go_wp2_with fail
          exact ret_no HM.out HNo.out (by rfl)
        · have t1 : ¬ (byt l (6 + j) : Int) < 1 := by omega
          have g1 : decide ((byt l (6 + j) : Int) < 1) = false := by simp; omega
          by_cases hb2 : 60 < byt l (6 + j)
          · have t2 : (60 : Int) < (byt l (6 + j) : Int) := by omega
            clear hbad hb1 hb2 hn hst
            go_wp2_with fail
            exact ret_no HM.out HNo.out (by rfl)
          · have t2 : ¬ (60 : Int) < (byt l (6 + j) : Int) := by omega
            have g2 : decide ((60 : Int) < (byt l (6 + j) : Int)) = false := by simp; omega
            have t3 : (256 : Int) < (stN l j : Int) + (byt l (6 + j) : Int) := by omega
            have hw2 : IntKind.i64.wrap ((stN l j : Int) + (byt l (6 + j) : Int)) = (stN l j : Int) + (byt l (6 + j) : Int) := by rw [IntKind.wrap_i64]; omega
            clear hbad hb1 hb2 hn hst
            go_wp2_with fail
            exact ret_no HM.out HNo.out (by rfl)
      · obtain ⟨m, hm⟩ : ∃ m, byt l (6 + j) = m := ⟨_, rfl⟩
        obtain ⟨at', hat⟩ : ∃ a, stN l j = a := ⟨_, rfl⟩
        rw [hm, hat] at hbad
        rw [hm] at c6 hbm
        rw [hat] at hst
        rw [hat]
        have t1 : ¬ (m : Int) < 1 := by omega
        have g1 : decide ((m : Int) < 1) = false := by simp; omega
        have t2 : ¬ (60 : Int) < (m : Int) := by omega
        have g2 : decide ((60 : Int) < (m : Int)) = false := by simp; omega
        have t3 : ¬ (256 : Int) < (at' : Int) + (m : Int) := by omega
        have hw2 : IntKind.i64.wrap ((at' : Int) + (m : Int)) = ((at' + m : Nat) : Int) := by rw [IntKind.wrap_i64]; omega
        have la0 : (0 : Int) ≤ (at' : Int) := by omega
        have lm0 : (0 : Int) ≤ (m : Int) := by omega
        have HBd := hide hbad
        have HMm := hide hm
        have HAt := hide hat
        have HSt := hide hst
        clear hbad hm hat hn hst e0 e1 e2 e3 f0 f1 f2 f3
        go_wp2_with fail
        clear c1 c6
        obtain ⟨W1, hW1⟩ : ∃ W, W = wr := ⟨_, rfl⟩
        subst hW1
        go_loopw [7, 8] (fun v7 v8 wx => ∃ q : Nat, q ≤ m ∧ v8 = .int .i64 (q : Int) ∧ v7 = .string ⟨(sub l at' q).toArray⟩ ∧ Below W1.heap.size W1 wx) (fun _ v8 _ => m - (intOf v8).toNat)
        case atStart => exact ⟨0, Nat.zero_le _, rfl, by simp [sub_zero], Below.refl _ _⟩
        case round =>
          obtain ⟨q, hq, rfl, rfl, hbx⟩ := hrel
          have HBx := hide hbx
          clear hbx
          by_cases hqm : q < m
          · have lq1 : (q : Int) < (m : Int) := by omega
            have lq0 : (0 : Int) ≤ (q : Int) := by omega
            have hwq : IntKind.i64.wrap ((q : Int) + 1) = (q : Int) + 1 := by rw [IntKind.wrap_i64]; omega
            have hb3 := HBd.out
            have hwa : IntKind.i64.wrap ((at' : Int) + (q : Int)) = ((at' + q : Nat) : Int) := by rw [IntKind.wrap_i64]; omega
            have la1 : (((at' + q : Nat) : Int)) < 256 := by omega
            have la2 : (0 : Int) ≤ ((at' + q : Nat) : Int) := by omega
            have hcell := (HM.out.page.later HBx.out).cell (k := at' + q) (by rw [HL.out]; omega)
            have hbb := byt_lt l (at' + q)
            have hcv := conv_one wr (byt l (at' + q)) hbb
            have hcat := cat_one l HL.out at' q (by omega)
            obtain ⟨s1, hs1⟩ : ∃ S : ByteArray, (⟨(sub l at' q).toArray⟩ : ByteArray) = S := ⟨_, rfl⟩
            obtain ⟨s2, hs2⟩ : ∃ S : ByteArray, (⟨#[UInt8.ofNat (byt l (at' + q))]⟩ : ByteArray) = S := ⟨_, rfl⟩
            obtain ⟨s3, hs3⟩ : ∃ S : ByteArray, (⟨(sub l at' (q + 1)).toArray⟩ : ByteArray) = S := ⟨_, rfl⟩
            rw [hs1, hs2, hs3] at hcat
            rw [hs2] at hcv
            rw [hs1]
            have HS3 := hide hs3
            have HB4 := hide (bl_alx HBx.out (.cells #[.int .u8 (byt l (at' + q) : Int)] 5))
            clear hs1 hs2 hs3 hb3 hbb
            go_wp2_with fail
            refine ⟨⟨q + 1, hqm, rfl, by rw [HS3.out], HB4.out⟩, ?_⟩
            simp only [intOf]; omega
          · have lq1 : ¬ (q : Int) < (m : Int) := by omega
            obtain rfl : m = q := by omega
            have HMx := hide (HM.out.later HBx.out)
            have HOx := hide (own_laterS HOw.out HBx.out)
            obtain ⟨⟨x0, x1, x2, x3⟩, _⟩ := res4 HMx.out.body
            have HNb := hide (show (j + 1) * 16 ≤ 140737488355328 by omega)
            obtain ⟨s1, hs1⟩ : ∃ S : ByteArray, (⟨(sub l at' m).toArray⟩ : ByteArray) = S := ⟨_, rfl⟩
            rw [hs1]
            have HS1 : Hid (cellS l j = s1) := by
              show _ = _
              rw [← hs1, cellS, HAt.out, HMm.out]
              rfl
            have HSz := hide (show w.heap.size + 3 ≤ (wr.alloc (.cells #[.string s1] 9)).heap.size by
              have := (Array.getElem?_eq_some_iff.1 HMx.out.body).1
              simp
              omega)
            have HMa := hide (HMx.out.later (new_below wr (.cells #[.string s1] 9) rfl))
            clear hs1
            go_wp2_with (first
              | (at_builtin; refine wp_appS (own_alloc HOx.out _) (m := 1) (news := [.string s1]) rfl (one_cell wr _ _) (one_str _) HNb.out HSz.out _ _ (by rfl) (by rfl) (by rfl) (by rfl) ?_; intro v2 w2 ho hiff hk; have HM2 := hide (HMa.out.grown (hk _ (Below.refl _ _))); obtain ⟨p2, c2, rfl⟩ := own_form ho; have HO2 := hide ho; obtain ⟨⟨y0, y1, y2, y3⟩, g0, g1, g2, g3⟩ := res4 HM2.out.body; clear ho hk hiff))
            refine ⟨⟨j + 1, _, hlt, rfl, ?_, fun i hi => ?_, ?_, HM2.out.put _, ?_⟩, ?_⟩
            · rw [stN_succ, HAt.out, HMm.out]; rfl
            · by_cases e : i = j
              · subst e
                have := HBd.out
                rw [HMm.out]
                omega
              · exact HOk.out i (by omega)
            · rw [stN_succ, HAt.out, HMm.out]
              have := HBd.out
              omega
            · rw [strL_snoc, HS1.out]
              exact own_set HO2.out (by omega) _
            · simp only [intOf]; omega
    · have l1 : ¬ (j : Int) < (byt l 1 : Int) := by omega
      obtain rfl : byt l 1 = j := by omega
      have c1 := HM.out.page.cell (k := 1) (by rw [HL.out]; omega)
      have HSt := hide hst
      have hn := HA.out
      have hend : endN l ≤ 256 := hst
      have hen : stN l (byt l 1) = endN l := rfl
      rw [hen]
      clear hst hn
      go_wp2_with fail
      clear c1
      obtain ⟨W1, hW1⟩ : ∃ W, W = wr := ⟨_, rfl⟩
      subst hW1
      go_loopw [9] (fun kv wx => ∃ q : Nat, endN l ≤ q ∧ q ≤ 256 ∧ kv = .int .i64 (q : Int) ∧ (∀ i, endN l ≤ i → i < q → byt l i = 0) ∧ W1 = wx) (fun kv _ => 256 - (intOf kv).toNat)
      case atStart => exact ⟨endN l, Nat.le_refl _, hend, rfl, fun i h1 h2 => by omega, rfl⟩
      case round =>
        obtain ⟨q, hq1, hq2, rfl, hz, rfl⟩ := hrel
        have HZ := hide hz
        clear hz
        by_cases hq : q < 256
        · have lq1 : (q : Int) < 256 := by omega
          have lq0 : (0 : Int) ≤ (q : Int) := by omega
          have hwq : IntKind.i64.wrap ((q : Int) + 1) = (q : Int) + 1 := by rw [IntKind.wrap_i64]; omega
          have hcell := HM.out.page.cell (k := q) (by rw [HL.out]; omega)
          by_cases hzq : byt l q = 0
          · rw [hzq] at hcell
            go_wp2_with fail
            refine ⟨⟨q + 1, by omega, by omega, rfl, fun i h1 h2 => ?_, trivial⟩, ?_⟩
            · by_cases e : i = q
              · subst e; exact hzq
              · exact HZ.out i h1 (by omega)
            · simp only [intOf]; omega
          · have HNo : Hid (¬ okB l) := fun h => hzq (h.2.2.2.2 q hq1 hq)
            have gz : ((byt l q : Int) == 0) = false := by simp; omega
            have gz2 : ¬ (byt l q : Int) = 0 := by omega
            obtain ⟨⟨e0, e1, e2, e3⟩, f0, f1, f2, f3⟩ := res4 HM.out.res
            go_wp2_with fail
            exact ret_no HM.out HNo.out (by rfl)
        · have lq1 : ¬ (q : Int) < 256 := by omega
          have HYes : Hid (okB l) := ⟨by have := HA.out; omega, by have := HA.out; omega, HOk.out, HSt.out, fun i h1 h2 => HZ.out i h1 (by omega)⟩
          obtain ⟨p2, c2, rfl, hcap, hstr⟩ := own_str HOw.out
          have HCap := hide hcap
          have HStr := hide hstr
          obtain ⟨⟨e0, e1, e2, e3⟩, f0, f1, f2, f3⟩ := res4 HM.out.res
          obtain ⟨⟨x0, x1, x2, x3⟩, g0, g1, g2, g3⟩ := res4 HM.out.body
          have hr1 : (W1.setCell ⟨w.heap.size + 1 + 1, 0, none⟩ (.bool true)).heap[w.heap.size + 1]? = some (bodyC false 0 0 (.slice none 0 0)) := by
            rw [Below.heap_setCell _ _ _ _ (by simp)]
            exact HM.out.res
          have HR1 := hide hr1
          clear hstr hr1 hcap
          go_wp2_with fail
          refine ret_body Try.results8 rfl (set4 HR1.out _ _ _ _) ⟨fun _ => ⟨p2, ⟨c2, rfl, HCap.out.1, HCap.out.2⟩, fun h0 => ?_, ?_⟩, fun h => absurd HYes.out h⟩
          · obtain ⟨g, hg, hs⟩ := HStr.out h0
            refine ⟨g, hg, fun i hi => ?_⟩
            have hge : w.heap.size + 3 ≤ g := by
              have := (HOw.out.lt g (by rw [hg]; rfl)).1
              exact this
            rw [← hs i hi]
            refine World.cell?_of_block ?_
            show _ = W1.heap[g]?
            rw [Below.heap_setCell _ _ _ _ (by show g ≠ w.heap.size + 1; omega), Below.heap_setCell _ _ _ _ (by show g ≠ w.heap.size + 1; omega), Below.heap_setCell _ _ _ _ (by show g ≠ w.heap.size + 1; omega), Below.heap_setCell _ _ _ _ (by show g ≠ w.heap.size + 1; omega), Below.heap_setCell _ _ _ _ (by show g ≠ w.heap.size + 1 + 1; omega)]
          · exact below4 (HM.out.below.setCell (show w.heap.size ≤ w.heap.size + 1 + 1 by omega) _) (show w.heap.size ≤ w.heap.size + 1 by omega) _ _ _ _
end Go.Proofs.Ythhoeabenngiiaa
