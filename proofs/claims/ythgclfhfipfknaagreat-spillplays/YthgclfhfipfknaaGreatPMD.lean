/- Package spill: a chain gone along: what there is beside the pages. -/
/- Package spill: a chain gone along: marks, a loop whose rounds leave marks, the state. -/
import Derived.Test.YthgclfhfipfknaaGreatPMB
import Derived.Test.YthgclfhfipfknaaGreatOI
import Derived.Test.YthgclfhfipfknaaGreatOHP
import Derived.RangeFuncNested
import Derived.RangeFuncLeaves
namespace Go.Proofs.YthgclfhfipfknaaGreat
variable {sv : Value}
open Go.ChangeShapes Go.WideShapes Go.ChangeAt Go.RowKit Go.Maps
set_option linter.unusedVariables false

/-- The cells of a page of a chain: how much is left behind them, and the bytes so far. -/
def eatS (S : Nat → ByteArray) (st : Option (Nat × List UInt8)) (i : Nat) : Option (Nat × List UInt8) :=
  st.bind fun p => if (S i).size = min p.1 60 then some (p.1 - (S i).size, p.2 ++ (S i).data.toList) else none
def eat (S : Nat → ByteArray) (is : List Nat) (left : Nat) (d : List UInt8) : Option (Nat × List UInt8) := is.foldl (eatS S) (some (left, d))
theorem eat_snoc (S : Nat → ByteArray) (is : List Nat) (i left : Nat) (d : List UInt8) : eat S (is ++ [i]) left d = eatS S (eat S is left d) i := by simp [eat]
theorem eatS_none (S : Nat → ByteArray) : ∀ is : List Nat, is.foldl (eatS S) none = none
  | [] => rfl
  | i :: is => by simp only [List.foldl, eatS, Option.bind_none]; exact eatS_none S is
theorem eat_none (S : Nat → ByteArray) (is js : List Nat) (left : Nat) (d : List UInt8) (h : eat S is left d = none) : eat S (is ++ js) left d = none := by
  simp only [eat, List.foldl_append] at h ⊢
  rw [h]; exact eatS_none S js
theorem snocI {α : Type} {p : List α → Prop} (h0 : p []) (hs : ∀ d b, p d → p (d ++ [b])) (d : List α) : p d := by
  have : ∀ l : List α, p l.reverse := fun l => by
    induction l with
    | nil => exact h0
    | cons x l ih => rw [List.reverse_cons]; exact hs _ _ ih
  have h := this d.reverse
  rwa [List.reverse_reverse] at h
theorem eat_left (S : Nat → ByteArray) (left : Nat) (d : List UInt8) : ∀ (is : List Nat) {l : Nat} {x : List UInt8}, eat S is left d = some (l, x) → l = left - 60 * is.length ∧ x.length + l = d.length + left := by
  intro is
  refine snocI (p := fun is => ∀ {l : Nat} {x : List UInt8}, eat S is left d = some (l, x) → l = left - 60 * is.length ∧ x.length + l = d.length + left) ?_ ?_ is
  · intro l x h
    simp only [eat, List.foldl, Option.some.injEq, Prod.mk.injEq] at h
    obtain ⟨rfl, rfl⟩ := h
    simp
  · intro is i ih l x h
    rw [eat_snoc] at h
    cases he : eat S is left d with
    | none => rw [he] at h; simp [eatS] at h
    | some p =>
      obtain ⟨l0, x0⟩ := p
      rw [he] at h
      obtain ⟨h1, h2⟩ := ih he
      simp only [eatS, Option.bind_some] at h
      split at h
      · simp only [Option.some.injEq, Prod.mk.injEq] at h
        obtain ⟨rfl, rfl⟩ := h
        rename_i hs
        have hl : (S i).data.toList.length = (S i).size := bytes_size _
        simp only [List.length_append, List.length_cons, List.length_nil, hl]
        omega
      · cases h
/-- A chain from a page on: what it holds, and its pages. -/
noncomputable def fnd (P : Nat → List UInt8) (m : Nat) : Nat → Nat → Nat → List UInt8 → List Nat → Option (List UInt8 × List Nat)
  | 0, n, left, d, G => if left = 0 ∧ n = 0 then some (d, G) else none
  | f + 1, n, left, d, G => if left = 0 then (if n = 0 then some (d, G) else none) else
      if 2 ≤ n ∧ n ≤ m ∧ kindV (P n) = 5 ∧ cntV (P n) = cellsN left then
        (match eat (cellS (P n)) (List.range (cellsN left)) left d with
        | some (l, x) => fnd P m f (linkV (P n)) l x (G ++ [n])
        | none => none)
      else none
theorem fnd_end (P : Nat → List UInt8) (m f n : Nat) (d : List UInt8) (G : List Nat) : fnd P m f n 0 d G = if n = 0 then some (d, G) else none := by
  cases f <;> simp [fnd]
theorem fnd_bad (P : Nat → List UInt8) (m f n left : Nat) (d : List UInt8) (G : List Nat) (hl : left ≠ 0) (h : ¬ (2 ≤ n ∧ n ≤ m ∧ kindV (P n) = 5 ∧ cntV (P n) = cellsN left)) : fnd P m f n left d G = none := by
  cases f with
  | zero => simp [fnd, hl]
  | succ f => rw [fnd, if_neg hl, if_neg h]
theorem fnd_eatN (P : Nat → List UInt8) (m f n left : Nat) (d : List UInt8) (G : List Nat) (hl : left ≠ 0) (h : eat (cellS (P n)) (List.range (cellsN left)) left d = none) : fnd P m f n left d G = none := by
  cases f with
  | zero => simp [fnd, hl]
  | succ f => rw [fnd, if_neg hl, h]; simp
theorem fnd_step (P : Nat → List UInt8) (m f n left l : Nat) (d x : List UInt8) (G : List Nat) (hl : left ≠ 0) (hf : left ≤ f) (h : 2 ≤ n ∧ n ≤ m ∧ kindV (P n) = 5 ∧ cntV (P n) = cellsN left) (he : eat (cellS (P n)) (List.range (cellsN left)) left d = some (l, x)) : fnd P m f n left d G = fnd P m (f - 1) (linkV (P n)) l x (G ++ [n]) := by
  cases f with
  | zero => omega
  | succ f => rw [fnd, if_neg hl, if_pos h, he]; simp
theorem cellsN_pos {left : Nat} (h : left ≠ 0) : 1 ≤ cellsN left ∧ 60 * (cellsN left - 1) < left ∧ cellsN left ≤ 4 := by unfold cellsN; omega

/-- What changes but rows of one element's type, and some blocks. -/
structure Fr (ty : TypeId) (S : List Nat) (w w' : World) : Prop where
  size : w.heap.size ≤ w'.heap.size
  block : ∀ k, k < w.heap.size → k ∉ S → (∀ cs fz, w.heap[k]? ≠ some (.cells cs ty fz)) → w'.heap[k]? = w.heap[k]?
theorem Fr.blk {ty : TypeId} {S : List Nat} {w w' : World} (h : Fr ty S w w') {k : Nat} {c : Array Value} {t : TypeId} (hb : Blk w k c t) (ht : t ≠ ty) (hk : k ∉ S) : Blk w' k c t :=
  (h.block k hb.lt hk (fun cs fz e => by rw [show w.heap[k]? = _ from hb] at e; cases e; exact ht rfl)).trans hb
theorem Fr.other {ty : TypeId} {S : List Nat} {w w' : World} (h : Fr ty S w w') {k : Nat} {o : Obj} (hb : w.heap[k]? = some o) (ho : o.isCells = false) (hk : k ∉ S) : w'.heap[k]? = some o :=
  (h.block k (Array.getElem?_eq_some_iff.1 hb).1 hk (fun cs fz e => by rw [hb] at e; cases e; cases ho)).trans hb
theorem own_same {w w' : World} {base e size n : Nat} {v : Value} {xs : List Value} (h : w.ownsRow base e size v n xs) (hs : ∀ g cs fz, w.heap[g]? = some (.cells cs e fz) → base ≤ g → w'.heap[g]? = w.heap[g]?) : w'.ownsRow base e size v n xs := by
  refine ⟨h.1, ?_⟩
  rcases h.2 with hn | ⟨g, cap, cur, rfl, hb, hgg, rest⟩
  · exact .inl hn
  · exact .inr ⟨g, cap, cur, rfl, hb, (hs g _ _ hgg hb).trans hgg, rest⟩
/-- A text is written to a builder that is used. -/
theorem bd_write2 (B b : Nat) (d : List UInt8) (s : ByteArray) (w : World) (h : Lib.BuilderAt 203 5 B b (.pointer (some ⟨b, 0, none⟩)) (Lib.byteCells d) w) (hlen : d.length + s.size ≤ 140737488355328) (hBw : B ≤ w.heap.size) :
    Calls Tryz.prog 100 #[.pointer (some ⟨b, 0, none⟩), .string s] w fun e w' => e = .returned (.tuple #[.int .i64 s.size, .nilIface]) ∧ (Lib.BuilderAt 203 5 B b (.pointer (some ⟨b, 0, none⟩)) (Lib.byteCells (d ++ s.data.toList)) w' ∧ Below B w w' ∧ Fr 5 [b] w w') := by
  obtain ⟨i0, hi, hz0, hz1, hz2⟩ := info_parts bd_byte
  go_enter Tryz.func100, Tryz.ntmps100
  go_wp2_with (go_at_call 184; refine (bd_check_used b _ h.cell0).mono ?_)
  rintro e w ⟨rfl, rfl⟩
  obtain ⟨hB, v, hbk, hown, hne⟩ := h
  have c0 : w.cell? ⟨b, 0, none⟩ = some (.pointer (some ⟨b, 0, none⟩)) := by rw [Lib.cell_of_heap hbk]; rfl
  have c1 : w.cell? ⟨b, 1, none⟩ = some v := by rw [Lib.cell_of_heap hbk]; rfl
  go_wp2_with (at_builtin; refine Lib.wpList_append_own_string _ rfl _ _ 88 9 rfl B 5 i0 Tryz.underlying88 Tryz.underlying9 hi hz0 hz1 hz2 _ _ _ rfl hown s rfl ?c3 ?c4 ?c5 ?_)
  case c3 => unfold maxLen; rw [Lib.byteCells_length]; omega
  case c4 => rw [Lib.byteCells_length]; omega
  case c5 => omega
  intro v' w2 hown' hgrow _
  have hlt : b < w.heap.size := by
    rcases Nat.lt_or_ge b w.heap.size with h' | h'
    · exact h'
    · simp [Array.getElem?_eq_none h'] at hbk
  have hb2 : w2.heap[b]? = some (.cells #[.pointer (some ⟨b, 0, none⟩), v] 203 (0, 0)) := by
    rw [hgrow.block b hlt (fun e => hne e.symm)]
    exact hbk
  have d0 : w2.cell? ⟨b, 0, none⟩ = some (.pointer (some ⟨b, 0, none⟩)) := by rw [Lib.cell_of_heap hb2]; rfl
  have d1 : w2.cell? ⟨b, 1, none⟩ = some v := by rw [Lib.cell_of_heap hb2]; rfl
  have f1 : w2.frozen? ⟨b, 1, none⟩ = false := Lib.frozen_of_heap hb2 1
  obtain ⟨ao, n', cap, rfl⟩ : ∃ ao n' cap, v' = .slice ao n' cap := by
    rcases hown'.2 with ⟨hv, _⟩ | ⟨g, cap, cur, hv, _⟩
    · exact ⟨_, _, _, hv⟩
    · exact ⟨_, _, _, hv⟩
  go_wp2
  go_ret2
  refine ⟨rfl, ?_, ?_, ?_⟩
  · exact Lib.BuilderAt.put (T := 203) (e := 5) hB hb2 (bs' := Lib.byteCells (d ++ s.data.toList)) (by rw [Lib.byteCells_append, ← Lib.strCells_eq]; simpa [Lib.strCells_length] using hown') (by decide)
  · exact ((Below.refl B w).grown hgrow (by omega) (fun k hk => (hown.lt k hk).1)).setCell (p := ⟨b, 1, none⟩) hB _
  · refine ⟨Nat.le_trans hgrow.size (by simp [World.setCell]), fun k hk hS hc => ?_⟩
    have hkb : k ≠ b := by simpa using hS
    refine (Below.heap_setCell w2 ⟨b, 1, none⟩ _ k hkb).trans (hgrow.block k hk (fun e => ?_))
    rcases hown.2 with ⟨hv, _⟩ | ⟨g, cp, cur, hv, _, hg, _⟩
    · rw [hv] at e; cases e
    · rw [hv] at e; simp only [Value.ownBlock, Option.some.injEq] at e; subst e; exact hc _ _ hg
/-- Numbers are appended to a row that is owned; what else there is. -/
theorem wp_appI2 {ops : Array Oper} {rest : List Oper} {o : Oper} {a : Act} {Q : Exit → Act → World → Prop} {w : World} {base n : Nat} {v : Value} {xs : List Value} (hown : w.ownsRow base 3 1 v n xs) {ad : Addr} {m c : Nat} {news : List Value}
    (hl : news.length = m * 1) (hnews : ∀ j u, news[j]? = some u → w.cell? (ad.add j) = some u) (h1 : ∀ u ∈ news, u.oneCell' = true) (hn : (n + m) * 8 ≤ 140737488355328) (hbase : base ≤ w.heap.size) (s z : Operand)
    (hgd : o.guard = none) (ho : o.op = .call { callee := .builtin .append, args := #[s, z], argTypes := #[27, 27] }) (hs : a.eval s = v) (hz : a.eval z = .slice (some ad) m c)
    (hk : ∀ v' w', w'.ownsRow base 3 1 v' (n + m) (xs ++ news) → w.grownBy w' v.ownBlock → wpList Tryz.prog ops Q rest (a.put o.dst v') w') : wpList Tryz.prog ops Q (o :: rest) a w := by
  obtain ⟨i, hi, hz0, hsz, hby⟩ := int_info
  exact wpList_append_own w hgd s z 27 ho base 3 i _ 1 8 Tryz.underlying27 hi hz0 hsz hby rfl (by omega) v n xs hs hown ad m c news hz hl hnews h1 (by simp only [maxLen]; omega) hn hbase (fun v' w' h2 h3 h4 => hk v' w' h2 h3)
end Go.Proofs.YthgclfhfipfknaaGreat

namespace Go.Proofs.YthgclfhfipfknaaGreat
variable {sv : Value}
open Go.ChangeShapes Go.WideShapes Go.ChangeAt Go.RowKit Go.Maps
set_option linter.unusedVariables false

/-- The marks of ranges over functions. -/
def mks (rs : List Nat) : List Deferred := rs.map fun r => { target := .collected r, args := #[] }
theorem leaves_marks {fn : Func} {tmps : Array Value} {R : Ending → World → Prop} {n : Nat} (B : Nat) : ∀ (rs : List Nat) (W : World), rs.Nodup → (∀ r ∈ rs, B ≤ r ∧ W.heap[r]? = some (.deferred (some []))) →
    (∀ W', Below B W W' → (∀ (k : Nat) (cs : Array Value) (t : TypeId) (fz : Nat × Nat), W.heap[k]? = some (Obj.cells cs t fz) → W'.heap[k]? = some (Obj.cells cs t fz)) → LeavesIn Fence.wide n Tryz.prog fn tmps R [] .returning W') → LeavesInM Fence.wide n Tryz.prog fn tmps R (mks rs) .returning W
  | [], W, _, _, h => h W (Below.refl B W) (fun _ _ _ _ h => h)
  | r :: rs, W, hn, hr, h => by
    obtain ⟨h1, h2⟩ := hr r (List.mem_cons_self ..)
    have hlt := (Array.getElem?_eq_some_iff.1 h2).1
    have hn' := List.nodup_cons.1 hn
    have hbl : Below B W (W.putObj r (.deferred none)) := by
      rcases Nat.le_total B W.heap.size with hB | hB
      · exact belowK_b (w := W) hB _ _ _ _ h1 h2
      · omega
    refine ⟨by simp, .inl ⟨r, W.putObj r (.deferred none), rfl, run_takeDeferred h2, leaves_marks B rs _ hn'.2 (fun k hk => ?_) (fun W' hb hc => h W' (hbl.trans hb) (fun k cs t fz hk => hc k cs t fz ?_))⟩⟩
    · obtain ⟨k1, k2⟩ := hr k (List.mem_cons_of_mem _ hk)
      exact ⟨k1, (World.putObj_heap_other (by rintro rfl; exact hn'.1 hk)).trans k2⟩
    · exact (World.putObj_heap_other (by rintro rfl; rw [h2] at hk; cases hk)).trans hk
theorem res_blk2 {W : World} {g j k : Nat} {t : TypeId} {c : Array Value} {v : Value} (hi : (Tryz.prog.info? t).map (·.size) = some c.size) (hu : ∃ d, Tryz.prog.underlying t = some d ∧ d.isRow = true) {fn : Func} (hres : fn.results = #[.cell j t, .tmp k]) {tmps : Array Value} (ht : tmps.getD j undef = .pointer (some ⟨g, 0, none⟩)) (hv : tmps.getD k undef = v)
    (hg : Blk W g c t) : (results fn tmps).run Tryz.prog W = .ok (.tuple #[.agg c, v]) W := by
  obtain ⟨d, hd, hr⟩ := hu
  have hld := run_loadVar_mid (P := Tryz.prog) W g 0 t c.toList d hg.range hd hr (by simpa using hi)
  have ht' : tmps[j]?.getD undef = .pointer (some ⟨g, 0, none⟩) := by simpa using ht
  have hv' : tmps[k]?.getD undef = v := by simpa using hv
  simp [results, hres, ht', hv', asAddr, hld]
/-- Some slots of a frame set. -/
def setAll : List Nat → List Value → Array Value → Array Value
  | k :: ks, u :: us, arr => setAll ks us (arr.setIfInBounds k u)
  | _, _, arr => arr
theorem setAll_self : ∀ (ks : List Nat) (arr : Array Value), (∀ k ∈ ks, k < arr.size) → setAll ks (ks.map fun k => arr.getD k undef) arr = arr
  | [], _, _ => rfl
  | k :: ks, arr, h => by
    have hk := h k (List.mem_cons_self ..)
    have e : arr.setIfInBounds k (arr.getD k undef) = arr := by
      apply Array.ext
      · simp
      · intro i h1 h2
        rw [Array.getElem_setIfInBounds]
        split
        · rename_i he; subst he; simp
        · rfl
    simp only [List.map, setAll]
    rw [e]
    exact setAll_self ks arr (fun j hj => h j (List.mem_cons_of_mem _ hj))
/-- A loop in which some slots of the frame change, and which leaves marks. -/
theorem wp_loop_at {c : Code} {P : Program} {Q : Exit → Act → World → Prop} {a0 : Act} {w : World} (ks : List Nat) (hks : ∀ k ∈ ks, k < a0.tmps.size) (Rel : List Value → List Deferred → World → Prop) (μ : World → Nat)
    (h0 : Rel (ks.map fun k => a0.tmps.getD k undef) a0.defers w)
    (round : ∀ us ds wr, Rel us ds wr → us.length = ks.length → c.wp P (Exit.then (fun a' w' => (∃ us', us'.length = ks.length ∧ a'.tmps = setAll ks us' a0.tmps ∧ Rel us' a'.defers w') ∧ μ w' < μ wr) Q) { tmps := setAll ks us a0.tmps, defers := ds } wr) : (Code.loop c).wp P Q a0 w := by
  refine wp_loop (fun a wr => ∃ us, us.length = ks.length ∧ a.tmps = setAll ks us a0.tmps ∧ Rel us a.defers wr) (fun _ wr => μ wr) ⟨_, by simp, (setAll_self ks _ hks).symm, h0⟩ ?_
  rintro ⟨tm, ds⟩ wr ⟨us, hl, rfl, hr⟩
  exact round us ds wr hr hl

/-- The state of find's loop: what is left, the bytes, the pages so far, the marks. -/
structure FdI (w wr : World) (b e sz left : Nat) (d : List UInt8) (v : Value) (G rs : List Nat) : Prop where
  bel : Below w.heap.size w wr
  kp : Blk wr w.heap.size (kpA ⟨#[]⟩ 0 none 0 0) 79
  lf : Blk wr e #[.int .i64 (left : Int)] 3
  bd : Lib.BuilderAt 203 5 b b (.pointer (some ⟨b, 0, none⟩)) (Lib.byteCells d) wr
  own : wr.ownsRow sz 3 1 v G.length (inL G)
  mrk : ∀ r ∈ rs, sz ≤ r ∧ wr.heap[r]? = some (.deferred (some []))
  nd : rs.Nodup
  hb : w.heap.size < b
  he : b < e
  hs : e < sz
  sz : sz ≤ wr.heap.size
theorem bd_same {w w' : World} {b : Nat} {p : Value} {bs : List Value} (h : Lib.BuilderAt 203 5 b b p bs w) (hb : w'.heap[b]? = w.heap[b]?) (hs : ∀ (g : Nat) (cs : Array Value) (fz : Nat × Nat), w.heap[g]? = some (Obj.cells cs 5 fz) → w'.heap[g]? = w.heap[g]?) : Lib.BuilderAt 203 5 b b p bs w' := by
  obtain ⟨h1, v, h2, h3, h4⟩ := h
  exact ⟨h1, v, hb.trans h2, own_same h3 (fun g cs fz hg _ => hs g cs fz hg), h4⟩
theorem FdI.later {w wr w' : World} {b e sz left : Nat} {d : List UInt8} {v : Value} {G rs : List Nat} (h : FdI w wr b e sz left d v G rs) (hb : Below wr.heap.size wr w') : FdI w w' b e sz left d v G rs := by
  have lt : ∀ {k : Nat} {o : Obj}, wr.heap[k]? = some o → w'.heap[k]? = wr.heap[k]? := fun hk => hb.block _ (Array.getElem?_eq_some_iff.1 hk).1
  exact ⟨below_trans h.bel hb, h.kp.later hb, h.lf.later hb, bd_later h.bd hb, own_same h.own (fun g cs fz hg _ => lt hg), fun r hr => ⟨(h.mrk r hr).1, (lt (h.mrk r hr).2).trans (h.mrk r hr).2⟩, h.nd, h.hb, h.he, h.hs, Nat.le_trans h.sz hb.size⟩
/-- A text is written. -/
theorem FdI.wrote {w wr w' : World} {b e sz left : Nat} {d d' : List UInt8} {v : Value} {G rs : List Nat} (h : FdI w wr b e sz left d v G rs) (hbd : Lib.BuilderAt 203 5 b b (.pointer (some ⟨b, 0, none⟩)) (Lib.byteCells d') w') (hb : Below b wr w') (hf : Fr 5 [b] wr w') : FdI w w' b e sz left d' v G rs :=
  ⟨h.bel.trans (hb.mono (Nat.le_of_lt h.hb)), (hb.block _ h.hb).trans h.kp, hf.blk h.lf (by decide) (by simp; have := h.he; omega), hbd,
   own_same h.own (fun g cs fz hg hge => hf.block g (Array.getElem?_eq_some_iff.1 hg).1 (by simp; have := h.he; have := h.hs; omega) (fun cs' fz' e' => by rw [hg] at e'; injection e' with e1; injection e1 with _ e2; exact absurd e2 (by decide))),
   fun r hr => ⟨(h.mrk r hr).1, hf.other (h.mrk r hr).2 rfl (by simp; have := (h.mrk r hr).1; have := h.he; have := h.hs; omega)⟩, h.nd, h.hb, h.he, h.hs, Nat.le_trans h.sz hf.size⟩
/-- What is left is set. -/
theorem FdI.setL {w wr : World} {b e sz left : Nat} {d : List UInt8} {v : Value} {G rs : List Nat} (h : FdI w wr b e sz left d v G rs) (l : Nat) : FdI w (wr.setCell ⟨e, 0, none⟩ (.int .i64 (l : Int))) b e sz l d v G rs := by
  have ho := Only.setCell wr ⟨e, 0, none⟩ (.int .i64 (l : Int))
  have st : ∀ k, k ≠ e → (wr.setCell ⟨e, 0, none⟩ (.int .i64 (l : Int))).heap[k]? = wr.heap[k]? := fun k hk => Below.heap_setCell _ _ _ _ hk
  have h1 := h.hb
  have h2 := h.he
  have h3 := h.hs
  refine ⟨below_only1 h.bel ho (by show w.heap.size ≤ e; omega), h.kp.only ho (by show _ ∉ [e]; simp; omega), h.lf.set 0 _, bd_same h.bd (st b (by omega)) (fun g cs fz hg => st g ?_), own_same h.own (fun g cs fz hg hge => st g (by omega)), fun r hr => ⟨(h.mrk r hr).1, (st r (by have := (h.mrk r hr).1; omega)).trans (h.mrk r hr).2⟩, h.nd, h1, h2, h3, Nat.le_trans h.sz ho.size⟩
  rintro rfl
  rw [show wr.heap[g]? = _ from h.lf] at hg
  injection hg with e1; injection e1 with _ e2
  exact absurd e2 (by decide)
/-- A page's number is appended. -/
theorem FdI.app {w wr w' : World} {b e sz left k : Nat} {d : List UInt8} {v v' : Value} {G rs : List Nat} (h : FdI w wr b e sz left d v G rs) (ho : w'.ownsRow sz 3 1 v' (G.length + 1) (inL G ++ [.int .i64 (k : Int)])) (hg : wr.grownBy w' v.ownBlock) : FdI w w' b e sz left d v' (G ++ [k]) rs := by
  have h1 := h.hb
  have h2 := h.he
  have h3 := h.hs
  have h4 := h.sz
  have st : ∀ i o, wr.heap[i]? = some o → (i < sz ∨ ∀ cs fz, o ≠ Obj.cells cs 3 fz) → w'.heap[i]? = wr.heap[i]? := fun i o hi hc => by
    refine hg.block i (Array.getElem?_eq_some_iff.1 hi).1 (fun e1 => ?_)
    rcases h.own.2 with ⟨hv, _⟩ | ⟨g, cp, cur, hv, hge, hgg, _⟩
    · rw [hv] at e1; cases e1
    · rw [hv] at e1; simp only [Value.ownBlock, Option.some.injEq] at e1
      subst e1
      rcases hc with hc | hc
      · omega
      · rw [hgg] at hi; cases hi; exact hc _ _ rfl
  refine ⟨?_, (st _ _ h.kp (.inl (by omega))).trans h.kp, (st _ _ h.lf (.inl (by omega))).trans h.lf, ?_, by simpa [inL] using ho, fun r hr => ⟨(h.mrk r hr).1, (st _ _ (h.mrk r hr).2 (.inr (fun _ _ e => by cases e))).trans (h.mrk r hr).2⟩, h.nd, h1, h2, h3, Nat.le_trans h4 hg.size⟩
  · refine ⟨hg.os.trans h.bel.os, hg.tape.trans h.bel.tape, hg.output.trans h.bel.output, Nat.le_trans h.bel.size hg.size, fun i hi => ?_⟩
    have hlt : i < wr.heap.size := Nat.lt_of_lt_of_le hi h.bel.size
    exact (st i _ (Array.getElem?_eq_getElem hlt) (.inl (by omega))).trans (h.bel.block i hi)
  · refine bd_same h.bd ?_ (fun g cs fz hgg => st g _ hgg (.inr (fun cs' fz' e' => by injection e' with _ e2; exact absurd e2 (by decide))))
    obtain ⟨_, v0, h2', _⟩ := h.bd
    exact st b _ h2' (.inl (by omega))
/-- A range over a function ended: a mark more. -/
theorem FdI.mark {w wr : World} {b e sz left r : Nat} {d : List UInt8} {v : Value} {G rs : List Nat} (h : FdI w wr b e sz left d v G rs) (hr : sz ≤ r) (hn : r ∉ rs) (hd : wr.heap[r]? = some (.deferred (some []))) : FdI w wr b e sz left d v G (r :: rs) :=
  ⟨h.bel, h.kp, h.lf, h.bd, h.own, fun k hk => (List.mem_cons.1 hk).elim (fun e => e ▸ ⟨hr, hd⟩) (fun hk => h.mrk k hk), List.nodup_cons.2 ⟨hn, h.nd⟩, h.hb, h.he, h.hs, h.sz⟩
/-- Objects that are no cells may change. -/
theorem FdI.ownF {w : World} {b e sz left B : Nat} {d : List UInt8} {v : Value} {G rs : List Nat} {X Y : World} {row : Option Nat} (h : FdI w X b e sz left d v G rs) (hlt : ∀ r ∈ rs, r < B) (hg : X.grownBy Y row) (hr : ∀ r, row = some r → B ≤ r ∧ ∃ o : Obj, X.heap[r]? = some o ∧ o.isCells = false) (hB : w.heap.size ≤ B) : FdI w Y b e sz left d v G rs := by
  have st : ∀ i cs t fz, X.heap[i]? = some (Obj.cells cs t fz) → Y.heap[i]? = X.heap[i]? := fun i cs t fz hi => hg.block i (Array.getElem?_eq_some_iff.1 hi).1 (fun e1 => by
    obtain ⟨_, o, ho, hc⟩ := hr i e1.symm
    rw [hi] at ho; cases ho; cases hc)
  have sm : ∀ i, i < B → i < X.heap.size → Y.heap[i]? = X.heap[i]? := fun i hi hl => hg.block i hl (fun e1 => by have := (hr i e1.symm).1; omega)
  refine ⟨⟨hg.os.trans h.bel.os, hg.tape.trans h.bel.tape, hg.output.trans h.bel.output, Nat.le_trans h.bel.size hg.size, fun i hi => (sm i (by omega) (Nat.lt_of_lt_of_le hi h.bel.size)).trans (h.bel.block i hi)⟩, (st _ _ _ _ h.kp).trans h.kp, (st _ _ _ _ h.lf).trans h.lf, ?_, own_same h.own (fun g cs fz hgg _ => st g _ _ _ hgg), fun r hr' => ⟨(h.mrk r hr').1, (sm r (hlt r hr') (Array.getElem?_eq_some_iff.1 (h.mrk r hr').2).1).trans (h.mrk r hr').2⟩, h.nd, h.hb, h.he, h.hs, Nat.le_trans h.sz hg.size⟩
  obtain ⟨_, v0, h2', _⟩ := h.bd
  exact bd_same h.bd (st b _ _ _ h2') (fun g cs fz hgg => st g _ _ _ hgg)
end Go.Proofs.YthgclfhfipfknaaGreat
