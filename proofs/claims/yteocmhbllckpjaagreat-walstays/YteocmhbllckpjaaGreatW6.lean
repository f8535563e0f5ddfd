/- Plain: what is kept and all its changes is what is seen. -/
/- Plain: what is kept behind a restart with choices. -/
/- What of memory is a disk's; a change taken, with what it leaves alone. -/
import Derived.Test.YteocmhbllckpjaaGreatV8
import Derived.Test.YteocmhbllckpjaaGreatV11
import Derived.Deep.Cut
import Derived.Deep.CutRange
import Derived.Deep.RegionHeld3
import Derived.Deep.MidRow
import Derived.Deep.WholeRow
namespace Go.Proofs.YteocmhbllckpjaaGreat
open Go.ChangeShapes Go.WideShapes Go.ChangeAt Go.RowKit
set_option linter.unusedVariables false

theorem arrN_one : arrN 1 = 64 := rfl
theorem isN_self (nm : ByteArray) (s z : Int) (d : List UInt8) : isN nm ⟨nm, s, z, d⟩ = true := by simp [isN]
theorem keepF_append (nm : ByteArray) (l : List UInt8) (a b : List Ch) : keepF nm l (a ++ b) = keepF nm (keepF nm l a) b := by unfold keepF; rw [List.foldl_append]
theorem rsz_self (l : List UInt8) : rsz l l.length = l := by unfold rsz; rw [if_pos (Nat.le_refl _), List.take_of_length_le (Nat.le_refl _)]
theorem rsz_grown (l : List UInt8) (n : Nat) (h : l.length < n) : rsz l n = grownTo l n := by unfold rsz grownTo; rw [if_neg (by omega), if_pos h]
/-- A sector taken whole. -/
theorem take_sec (nm : ByteArray) (l t : List UInt8) (k : Nat) (hlen : l.length = t.length) (hk : k * 64 < t.length) : takeL l ⟨nm, (k : Int), 0, secOf t k⟩ 1 = splice l (k * 64) ((t.drop (k * 64)).take 64) := by
  unfold takeL
  rw [if_neg (by decide)]
  have hs : ¬ (k : Int) = -1 := by omega
  rw [if_neg hs]
  show putL l ((k : Int).toNat * 64) ((secOf t k).take (arrN 1)) = _
  rw [Int.toNat_natCast, arrN_one]
  unfold putL
  rw [if_pos (by omega)]
  have h64 := length_secOf t k
  rw [List.take_of_length_le (l := secOf t k) (by omega)]
  congr 1
  unfold secOf splice
  rw [List.take_zero, List.nil_append, Nat.zero_add]
  have hd : ((t.drop (k * 64)).take 64).length = min 64 (t.length - k * 64) := by rw [List.length_take, List.length_drop]
  rw [List.take_append, hd]
  by_cases h : t.length - k * 64 ≤ 64
  · rw [List.take_of_length_le (by rw [hd]; omega), show l.length - k * 64 - min 64 (t.length - k * 64) = 0 by omega, List.take_zero, List.append_nil]
  · have hz : List.drop (min 64 (t.length - k * 64)) (List.replicate 64 (0 : UInt8)) = [] := List.drop_of_length_le (by rw [List.length_replicate]; omega)
    rw [List.take_of_length_le (by rw [hd]; omega), hz, List.take_nil, List.append_nil]
/-- Sectors taken one behind the other. -/
theorem keep_secs (nm : ByteArray) (t : List UInt8) : ∀ (n k0 : Nat) (l : List UInt8), l.length = t.length → (∀ k, k0 ≤ k → k < k0 + n → k * 64 < t.length) → (∀ i, i < k0 * 64 → l[i]? = t[i]?) → (∀ i, (k0 + n) * 64 ≤ i → l[i]? = t[i]?) → keepF nm l (secs nm t k0 n) = t
  | 0, k0, l, hl, hk, h1, h2 => by
    show l = t
    apply List.ext_getElem?
    intro i
    by_cases h : i < k0 * 64
    · exact h1 i h
    · exact h2 i (by omega)
  | n + 1, k0, l, hl, hk, h1, h2 => by
    have hs : secs nm t k0 (n + 1) = ⟨nm, (k0 : Int), 0, secOf t k0⟩ :: secs nm t (k0 + 1) n := by simp [secs, List.range'_succ]
    rw [hs]
    show keepF nm (if isN nm ⟨nm, (k0 : Int), 0, secOf t k0⟩ then takeL l ⟨nm, (k0 : Int), 0, secOf t k0⟩ 1 else l) (secs nm t (k0 + 1) n) = t
    rw [isN_self, if_pos rfl, take_sec nm l t k0 hl (hk k0 (by omega) (by omega))]
    have hd : ((t.drop (k0 * 64)).take 64).length = min 64 (t.length - k0 * 64) := by rw [List.length_take, List.length_drop]
    have hk0 := hk k0 (by omega) (by omega)
    have hspl : (splice l (k0 * 64) ((t.drop (k0 * 64)).take 64)).length = l.length := length_splice _ _ _ (by omega)
    have hget : ∀ i, (splice l (k0 * 64) ((t.drop (k0 * 64)).take 64))[i]? = if i < k0 * 64 then l[i]? else if i < k0 * 64 + min 64 (t.length - k0 * 64) then t[i]? else l[i]? := fun i => by
      unfold splice
      have hta : (l.take (k0 * 64)).length = k0 * 64 := by rw [List.length_take]; omega
      by_cases hi : i < k0 * 64
      · rw [if_pos hi, List.getElem?_append_left (by omega), List.getElem?_take, if_pos hi]
      · rw [if_neg hi, List.getElem?_append_right (by omega), hta]
        by_cases hi2 : i < k0 * 64 + min 64 (t.length - k0 * 64)
        · rw [if_pos hi2, List.getElem?_append_left (by omega), List.getElem?_take, if_pos (by omega), List.getElem?_drop, show k0 * 64 + (i - k0 * 64) = i by omega]
        · rw [if_neg hi2, List.getElem?_append_right (by omega), List.getElem?_drop, hd]
          congr 1
          omega
    refine keep_secs nm t n (k0 + 1) _ (by omega) (fun k a b => hk k (by omega) (by omega)) (fun i hi => ?_) (fun i hi => ?_)
    · rw [hget]
      split
      · exact h1 i (by assumption)
      · split
        · rfl
        · have e1 : l[i]? = none := by rw [List.getElem?_eq_none_iff]; omega
          have e2 : t[i]? = none := by rw [List.getElem?_eq_none_iff]; omega
          rw [e1, e2]
    · rw [hget, if_neg (by omega)]
      split
      · rfl
      · exact h2 i (by omega)
/-- What a write notes is what it does. -/
theorem keep_wchs (nm : ByteArray) (l d : List UInt8) (at_ : Nat) (hd : 0 < d.length) : keepF nm l (wchs nm l at_ d) = wseen l at_ d := by
  unfold wchs
  rw [keepF_append]
  have hg : keepF nm l (wsize nm l (at_ + d.length)) = grownTo l (at_ + d.length) := by
    unfold wsize
    by_cases h : l.length < at_ + d.length
    · rw [if_pos h]
      show (if isN nm ⟨nm, -1, ((at_ + d.length : Nat) : Int), List.replicate 64 0⟩ then takeL l ⟨nm, -1, ((at_ + d.length : Nat) : Int), List.replicate 64 0⟩ 1 else l) = _
      rw [isN_self, if_pos rfl]
      unfold takeL
      rw [if_neg (by decide), if_pos rfl]
      show rsz l ((at_ + d.length : Nat) : Int).toNat = _
      rw [Int.toNat_natCast, rsz_grown l _ h]
    · rw [if_neg h]
      show l = _
      unfold grownTo
      rw [if_neg h]
  rw [hg]
  have hgl := length_grownTo l (at_ + d.length)
  have hwl := length_wseen l at_ d
  have hget : ∀ i, (wseen l at_ d)[i]? = if i < at_ then (grownTo l (at_ + d.length))[i]? else if i < at_ + d.length then d[i - at_]? else (grownTo l (at_ + d.length))[i]? := fun i => by
    unfold wseen splice
    have hta : ((grownTo l (at_ + d.length)).take at_).length = at_ := by rw [List.length_take]; omega
    by_cases hi : i < at_
    · rw [if_pos hi, List.getElem?_append_left (by omega), List.getElem?_take, if_pos hi]
    · rw [if_neg hi, List.getElem?_append_right (by omega), hta]
      by_cases hi2 : i < at_ + d.length
      · rw [if_pos hi2, List.getElem?_append_left (by omega)]
      · rw [if_neg hi2, List.getElem?_append_right (by omega), List.getElem?_drop]
        congr 1
        omega
  refine keep_secs nm (wseen l at_ d) _ (at_ / 64) _ (by omega) (fun k h1 h2 => by omega) (fun i hi => ?_) (fun i hi => ?_)
  · rw [hget, if_pos (by omega)]
  · rw [hget, if_neg (by omega), if_neg (by omega)]
end Go.Proofs.YteocmhbllckpjaaGreat

namespace Go.Proofs.YteocmhbllckpjaaGreat
open Go.ChangeShapes Go.WideShapes Go.ChangeAt Go.RowKit
set_option linter.unusedVariables false

/-- What is kept of a file behind the first j changes, taken by their choices. -/
def keptJ (chs : List Ch) (ch : Nat → Int) (nm : ByteArray) (l : List UInt8) : Nat → List UInt8
  | 0 => l
  | j + 1 => match chs[j]? with
    | some c => if isN nm c then takeL (keptJ chs ch nm l j) c (ch j) else keptJ chs ch nm l j
    | none => keptJ chs ch nm l j
theorem keptJ_succ {chs : List Ch} {ch : Nat → Int} {nm : ByteArray} {l : List UInt8} {j : Nat} {c : Ch} (h : chs[j]? = some c) : keptJ chs ch nm l (j + 1) = if isN nm c then takeL (keptJ chs ch nm l j) c (ch j) else keptJ chs ch nm l j := by
  rw [keptJ, h]
/-- All choices 1: as if it had been kept. -/
theorem keptJ_one (chs : List Ch) (ch : Nat → Int) (nm : ByteArray) (l : List UInt8) : ∀ j, j ≤ chs.length → (∀ i, i < j → ch i = 1) → keptJ chs ch nm l j = keepF nm l (chs.take j)
  | 0, _, _ => rfl
  | j + 1, hj, h => by
    obtain ⟨c, hc⟩ : ∃ c, chs[j]? = some c := ⟨chs[j], List.getElem?_eq_getElem (by omega)⟩
    rw [keptJ_succ hc, keepF_succ hc, keptJ_one chs ch nm l j (by omega) (fun i hi => h i (by omega)), h j (by omega)]
/-- No choice: as it was. -/
theorem keptJ_none (chs : List Ch) (ch : Nat → Int) (nm : ByteArray) (l : List UInt8) (h : ∀ i, ch i ≤ 0) : ∀ j, keptJ chs ch nm l j = l
  | 0 => rfl
  | j + 1 => by
    have ih := keptJ_none chs ch nm l h j
    rw [keptJ]
    split
    · rw [ih]
      split
      · unfold takeL
        rw [if_pos (h j)]
      · rfl
    · exact ih
/-- Between two rounds over the changes. -/
structure TakeI (D Dj : DS) (ch : Nat → Int) (j : Nat) : Prop where
  same : Dj = { D with fs := Dj.fs }
  from_ : ∀ f ∈ Dj.fs, ∃ f0 ∈ D.fs, f0.born = f.born ∧ f0.name = f.name ∧ f.kept = keptJ D.chs ch f0.name f0.kept j
  all_ : ∀ f0 ∈ D.fs, ∃ f ∈ Dj.fs, f.born = f0.born ∧ f.name = f0.name
  uniq : Uniq Dj.fs
  kl : ∀ f ∈ Dj.fs, f.kept.length ≤ 1048576
theorem TakeI.zero {D : DS} {ch : Nat → Int} (hU : Uniq D.fs) (hk : ∀ f ∈ D.fs, f.kept.length ≤ 1048576) : TakeI D D ch 0 :=
  ⟨rfl, fun f hf => ⟨f, hf, rfl, rfl, rfl⟩, fun f hf => ⟨f, hf, rfl, rfl⟩, hU, hk⟩
theorem TakeI.step {D Dj : DS} {ch : Nat → Int} {j : Nat} (h : TakeI D Dj ch j) (hn : (Dj.fs.map (·.born)).Nodup) {c : Ch} (hc : D.chs[j]? = some c) (hs : 0 ≤ c.size ∧ c.size ≤ 1048576) {f : FL} (hl : look Dj.fs c.name = some f) (v : Value) :
    TakeI D (takeD Dj f v (takeL f.kept c (ch j))) ch (j + 1) := by
  obtain ⟨hf, hnm⟩ := look_some hl
  have hN : isN f.name c = true := by unfold isN; rw [hnm]; simp
  refine ⟨?_, fun f' hf' => ?_, fun f0 h0 => ?_, ?_, fun f' hf' => ?_⟩
  · unfold takeD
    rw [h.same]
  · obtain ⟨x, hx, ⟨e, rfl⟩ | ⟨e, rfl⟩⟩ := mem_upd hf'
    · obtain rfl : x = f := FL.inj hn hx hf e
      obtain ⟨f0, h0, h1, h2, h3⟩ := h.from_ x hx
      refine ⟨f0, h0, h1, h2, ?_⟩
      rw [keptJ_succ hc, h2, hN, if_pos rfl, ← h2, ← h3]
    · obtain ⟨f0, h0, h1, h2, h3⟩ := h.from_ f' hx
      refine ⟨f0, h0, h1, h2, ?_⟩
      rw [keptJ_succ hc, h2]
      cases hb : isN f'.name c with
      | false => rw [← h2]; simpa using h3
      | true =>
        exfalso
        have e1 := isN_eq hb
        have e2 := h.uniq f' hx
        rw [← e1, hl] at e2
        cases e2
        exact e rfl
  · obtain ⟨x, hx, h1, h2⟩ := h.all_ f0 h0
    by_cases e : x.born = f.born
    · obtain rfl : x = f := FL.inj hn hx hf e
      exact ⟨_, mem_upd_self hx (fun y => { y with kv := v, kept := takeL x.kept c (ch j) }), h1, h2⟩
    · refine ⟨x, ?_, h1, h2⟩
      show x ∈ upd Dj.fs f.born _
      simp only [upd, List.mem_map]
      exact ⟨x, hx, by rw [if_neg e]⟩
  · exact h.uniq.upd f.born (fun y => { y with kv := v, kept := takeL f.kept c (ch j) }) (fun _ => rfl)
  · obtain ⟨x, hx, ⟨e, rfl⟩ | ⟨e, rfl⟩⟩ := mem_upd hf'
    · exact length_takeL (h.kl f hf) hs
    · exact h.kl f' hx
/-- What Restart with choices makes of a disk. -/
structure Restc (D D' : DS) (ch : Nat → Int) : Prop where
  chs : D'.chs = []
  fuse : D'.fuse = 0
  steps : D'.steps = 0
  down : D'.down = false
  starts : D'.starts = D.starts + 1
  room : D'.room = D.room
  each : ∀ f ∈ D'.fs, f.seen = f.kept ∧ f.kept ≠ [] ∧ ∃ f0 ∈ D.fs, f0.born = f.born ∧ f0.name = f.name ∧ f.kept = keptJ D.chs ch f0.name f0.kept D.chs.length
  all_ : ∀ f0 ∈ D.fs, keptJ D.chs ch f0.name f0.kept D.chs.length ≠ [] → ∃ f ∈ D'.fs, f.born = f0.born ∧ f.name = f0.name
  uniq : Uniq D'.fs
end Go.Proofs.YteocmhbllckpjaaGreat

namespace Go.Proofs.YteocmhbllckpjaaGreat
open Go.ChangeShapes Go.WideShapes Go.ChangeAt Go.RowKit
set_option linter.unusedVariables false

/-- The blocks of a disk. -/
def Foot (b : Nat) (D : DS) (k : Nat) : Prop := k = b ∨ k = D.mb ∨ D.cv.ownBlock = some k ∨ ∃ f ∈ D.fs, k = f.eb ∨ f.sv.ownBlock = some k ∨ f.kv.ownBlock = some k
/-- A disk has moved on: nothing but its own blocks and new ones has changed. -/
structure Moves (b : Nat) (D : DS) (w : World) (D' : DS) (w' : World) : Prop where
  os : w'.os = w.os
  tape : w'.tape = w.tape
  output : w'.output = w.output
  size : w.heap.size ≤ w'.heap.size
  keep : ∀ k, k < w.heap.size → ¬ Foot b D k → w'.heap[k]? = w.heap[k]?
  sub : ∀ k, k < w.heap.size → Foot b D' k → Foot b D k
theorem Moves.refl (b : Nat) (D : DS) (w : World) : Moves b D w D w := ⟨rfl, rfl, rfl, Nat.le_refl _, fun _ _ _ => rfl, fun _ _ h => h⟩
theorem Moves.trans {b : Nat} {D D1 D2 : DS} {w w1 w2 : World} (h : Moves b D w D1 w1) (h' : Moves b D1 w1 D2 w2) : Moves b D w D2 w2 :=
  ⟨h'.os.trans h.os, h'.tape.trans h.tape, h'.output.trans h.output, Nat.le_trans h.size h'.size,
   fun k hk hn => (h'.keep k (Nat.lt_of_lt_of_le hk h.size) (fun hf => hn (h.sub k hk hf))).trans (h.keep k hk hn),
   fun k hk hf => h.sub k hk (h'.sub k (Nat.lt_of_lt_of_le hk h.size) hf)⟩
theorem Rep.foot {w : World} {base b : Nat} {D : DS} {who : Nat → Nat} (R : Rep w base b D who) {k : Nat} (h : Foot b D k) : base ≤ k ∧ k < w.heap.size := by
  rcases h with rfl | rfl | h | ⟨f, hf, rfl | h | h⟩
  · exact ⟨R.lowb, R.blk.lt⟩
  · exact ⟨R.lowm, R.mlt⟩
  · exact own_lt R.ochs k h
  · exact ⟨R.lowe f hf, (R.ent f hf).lt⟩
  · exact own_lt (R.osv f hf) k h
  · exact own_lt (R.okv f hf) k h
theorem Moves.below {w w' : World} {base b : Nat} {D D' : DS} {who : Nat → Nat} (h : Moves b D w D' w') (R : Rep w base b D who) : Below base w w' :=
  ⟨h.os, h.tape, h.output, h.size, fun k hk => h.keep k (Nat.lt_of_lt_of_le hk R.base_le) (fun hf => by have := (R.foot hf).1; omega)⟩
theorem Moves.only {w w' : World} {b : Nat} {D D' : DS} {l : List Nat} (h : Only l w w') (hl : ∀ k ∈ l, k < w.heap.size → Foot b D k) (hs : ∀ k, k < w.heap.size → Foot b D' k → Foot b D k) : Moves b D w D' w' :=
  ⟨h.os, h.tape, h.output, h.size, fun k hk hn => h.block k hk (fun hm => hn (hl k hm hk)), hs⟩
def footL (b : Nat) (D : DS) : List Nat := b :: D.mb :: (D.cv.ownBlock.toList ++ D.fs.flatMap fun f => f.eb :: (f.sv.ownBlock.toList ++ f.kv.ownBlock.toList))
theorem mem_footL {b : Nat} {D : DS} {k : Nat} : k ∈ footL b D ↔ Foot b D k := by
  simp only [footL, Foot, List.mem_cons, List.mem_append, List.mem_flatMap, Option.mem_toList]
theorem Moves.onlyL {b : Nat} {D D' : DS} {w w' : World} (h : Moves b D w D' w') : Only (footL b D) w w' :=
  ⟨h.os, h.tape, h.output, h.size, fun k hk hn => h.keep k hk (fun hf => hn (mem_footL.2 hf))⟩
/-- Another disk is left alone. -/
theorem Moves.rep {w w' : World} {base2 b b2 : Nat} {D D' D2 : DS} {who2 : Nat → Nat} (h : Moves b D w D' w') (R2 : Rep w base2 b2 D2 who2) (hd : ∀ k, Foot b2 D2 k → ¬ Foot b D k) : Rep w' base2 b2 D2 who2 :=
  R2.only h.onlyL (fun hm => hd _ (.inl rfl) (mem_footL.1 hm)) (fun hm => hd _ (.inr (.inl rfl)) (mem_footL.1 hm)) (fun g hg hm => hd _ (.inr (.inr (.inl hg))) (mem_footL.1 hm))
    (fun f hf hm => hd _ (.inr (.inr (.inr ⟨f, hf, .inl rfl⟩))) (mem_footL.1 hm)) (fun f hf g hg hm => hd _ (.inr (.inr (.inr ⟨f, hf, .inr (.inl hg)⟩))) (mem_footL.1 hm)) (fun f hf g hg hm => hd _ (.inr (.inr (.inr ⟨f, hf, .inr (.inr hg)⟩))) (mem_footL.1 hm))
/-- A file's kept bytes turned. -/
theorem Moves.takeD {w w' : World} {b : Nat} {D : DS} {f : FL} (hf : f ∈ D.fs) {v' : Value} {l : List UInt8} (hv : ∀ g, v'.ownBlock = some g → f.kv.ownBlock = some g ∨ w.heap.size ≤ g) (h : Only (f.eb :: f.kv.ownBlock.toList) w w') : Moves b D w (takeD D f v' l) w' := by
  refine Moves.only h (fun k hk _ => ?_) (fun k hk hF => ?_)
  · rcases List.mem_cons.1 hk with rfl | hk
    · exact .inr (.inr (.inr ⟨f, hf, .inl rfl⟩))
    · exact .inr (.inr (.inr ⟨f, hf, .inr (.inr (by simpa using hk))⟩))
  · rcases hF with h1 | h1 | h1 | ⟨f', hf', h1⟩
    · exact .inl h1
    · exact .inr (.inl h1)
    · exact .inr (.inr (.inl h1))
    · obtain ⟨x, hx, ⟨e, rfl⟩ | ⟨e, rfl⟩⟩ := mem_upd hf'
      · rcases h1 with h1 | h1 | h1
        · exact .inr (.inr (.inr ⟨x, hx, .inl h1⟩))
        · exact .inr (.inr (.inr ⟨x, hx, .inr (.inl h1)⟩))
        · rcases hv k h1 with h2 | h2
          · exact .inr (.inr (.inr ⟨f, hf, .inr (.inr h2)⟩))
          · omega
      · exact .inr (.inr (.inr ⟨f', hx, h1⟩))
/-- What is seen of a file turned. -/
theorem Moves.seenD {w w' : World} {b : Nat} {D : DS} {f : FL} (hf : f ∈ D.fs) {v' : Value} {l : List UInt8} (hv : ∀ g, v'.ownBlock = some g → f.sv.ownBlock = some g ∨ w.heap.size ≤ g) (h : Only (f.eb :: f.sv.ownBlock.toList) w w') : Moves b D w { D with fs := upd D.fs f.born fun x => { x with sv := v', seen := l } } w' := by
  refine Moves.only h (fun k hk _ => ?_) (fun k hk hF => ?_)
  · rcases List.mem_cons.1 hk with rfl | hk
    · exact .inr (.inr (.inr ⟨f, hf, .inl rfl⟩))
    · exact .inr (.inr (.inr ⟨f, hf, .inr (.inl (by simpa using hk))⟩))
  · rcases hF with h1 | h1 | h1 | ⟨f', hf', h1⟩
    · exact .inl h1
    · exact .inr (.inl h1)
    · exact .inr (.inr (.inl h1))
    · obtain ⟨x, hx, ⟨e, rfl⟩ | ⟨e, rfl⟩⟩ := mem_upd hf'
      · rcases h1 with h1 | h1 | h1
        · exact .inr (.inr (.inr ⟨x, hx, .inl h1⟩))
        · rcases hv k h1 with h2 | h2
          · exact .inr (.inr (.inr ⟨f, hf, .inr (.inl h2)⟩))
          · omega
        · exact .inr (.inr (.inr ⟨x, hx, .inr (.inr h1)⟩))
      · exact .inr (.inr (.inr ⟨f', hx, h1⟩))
/-- Nothing of the disk is touched. -/
theorem Moves.grown {w w' : World} {b : Nat} {D : DS} (h : w.grownBy w' none) : Moves b D w D w' := Moves.only (l := []) ((Only.of_grown h).mono (by simp)) (fun k hk => by cases hk) (fun _ _ h => h)
/-- The map has lost a file, or none. -/
theorem Moves.forget {w w' : World} {b : Nat} {D : DS} {nm : ByteArray} (h : Only [D.mb] w w') : Moves b D w (forgetD D nm) w' := by
  refine Moves.only h (fun k hk _ => ?_) (fun k hk hF => ?_)
  · exact .inr (.inl (by simpa using hk))
  · have hs : ∀ f ∈ (forgetD D nm).fs, f ∈ D.fs := fun f hf => by
      unfold forgetD at hf
      revert hf
      repeat' split
      all_goals (intro hf; first | exact hf | exact (List.mem_filter.1 hf).1)
    have h0 : (forgetD D nm).mb = D.mb ∧ (forgetD D nm).cv = D.cv := by
      unfold forgetD
      repeat' split
      all_goals exact ⟨rfl, rfl⟩
    rcases hF with h1 | h1 | h1 | ⟨f', hf', h1⟩
    · exact .inl h1
    · exact .inr (.inl (h1.trans h0.1))
    · exact .inr (.inr (.inl (h0.2 ▸ h1)))
    · exact .inr (.inr (.inr ⟨f', hs f' hf', h1⟩))

theorem kresize2 (w : World) (base b : Nat) (D : DS) (who : Nat → Nat) (R : Rep w base b D who) (f : FL) (hf : f ∈ D.fs) (n : Nat) (hn : n ≤ 1048576) (hl : f.kept.length ≤ 1048576) :
    Calls Tryz.prog 97 #[.pointer (some ⟨f.eb, 1, none⟩), .int .i64 n] w fun e w' => e = .returned (.tuple #[]) ∧ Only (f.eb :: f.kv.ownBlock.toList) w w' ∧
      ∃ v' who', (∀ g, v'.ownBlock = some g → f.kv.ownBlock = some g ∨ w.heap.size ≤ g) ∧ Rep w' base b { D with fs := upd D.fs f.born fun x => { x with kv := v', kept := rsz f.kept n } } who' := by
  have hek : ∀ g, f.kv.ownBlock = some g → g ≠ f.eb := fun g hg e => by have h1 := R.wk f hf _ hg; have h2 := R.we f hf; rw [e] at h1; omega
  by_cases h : n ≤ f.kept.length
  · refine (file_resize_less w f.eb 1 #[f.sv, f.kv] 119 base f.kv f.kept n (R.ent f hf) rfl (R.okv f hf) h hl).mono ?_
    rintro e w' ⟨rfl, v', ho, hv, rfl⟩
    have hO : Only (f.eb :: f.kv.ownBlock.toList) w (w.setCell ⟨f.eb, 1, none⟩ v') := (Only.setCell w ⟨f.eb, 1, none⟩ v').mono (by simp)
    have R' := R.setK hf v' (rsz f.kept n) (fun g hg => .inl (hv g hg)) hO ((R.ent f hf).set 1 v') (by
      unfold rsz
      rw [if_pos h]
      exact ownsRow_only ho (Only.setCell w ⟨f.eb, 1, none⟩ v') (fun k hk => by have := hek k (hv k hk); simp; exact this))
    exact ⟨rfl, hO, v', _, fun g hg => .inl (hv g hg), R'⟩
  · refine (file_resize_more w f.eb 1 #[f.sv, f.kv] 119 base f.kv f.kept n (R.ent f hf) rfl (R.okv f hf) (fun e => hek _ e rfl) (by omega) hn R.base_le).mono ?_
    rintro e w' ⟨rfl, v', w2, hS1, hS2, ⟨g, hvg, hgg⟩, rfl⟩
    have hne : f.eb ≠ g := fun e => by
      rcases hgg with h | h
      · exact hek _ h e.symm
      · have := (R.ent f hf).lt; omega
    have hO1 : Only (f.eb :: f.kv.ownBlock.toList) w (w2.setCell ⟨f.eb, 1, none⟩ v') := ((Only.of_grown hS2).mono (fun j hj => List.mem_cons_of_mem _ hj)).trans ((Only.setCell _ _ _).mono (by simp))
    have hB2 : Blk w2 f.eb #[f.sv, f.kv] 119 := (Only.of_grown hS2).blk (R.ent f hf) (fun hm => hek f.eb (by simpa using hm) rfl)
    have R1 := R.setK hf v' (rsz f.kept n) (fun k hk => by rw [hvg] at hk; cases hk; exact hgg) hO1 (hB2.set 1 v') (by
      unfold rsz
      rw [if_neg h]
      exact ownsRow_only hS1 (Only.setCell w2 ⟨f.eb, 1, none⟩ v') (fun k hk => by rw [hvg] at hk; cases hk; simp; omega))
    exact ⟨rfl, hO1, v', _, (fun k hk => by rw [hvg] at hk; cases hk; exact hgg), R1⟩

theorem kput2 (w : World) (base b : Nat) (D : DS) (who : Nat → Nat) (R : Rep w base b D who) (f : FL) (hf : f ∈ D.fs) (d : List UInt8) (at_ : Nat) (ad : Addr) (dc : Nat) (hl : f.kept.length ≤ 1048576)
    (hd : ∀ j u, (bcs d)[j]? = some u → w.cell? (ad.add j) = some u) :
    Calls Tryz.prog 98 #[.pointer (some ⟨f.eb, 1, none⟩), .int .i64 at_, .slice (some ad) d.length dc] w fun e w' => e = .returned (.tuple #[]) ∧ Only (f.eb :: f.kv.ownBlock.toList) w w' ∧
      ∃ v' who', (∀ g, v'.ownBlock = some g → f.kv.ownBlock = some g ∨ w.heap.size ≤ g) ∧ Rep w' base b { D with fs := upd D.fs f.born fun x => { x with kv := v', kept := putL f.kept at_ d } } who' := by
  have hek : ∀ g, f.kv.ownBlock = some g → g ≠ f.eb := fun g hg e => by have h1 := R.wk f hf _ hg; have h2 := R.we f hf; rw [e] at h1; omega
  by_cases h : at_ < f.kept.length
  · refine (put_at w f.eb 1 #[f.sv, f.kv] 119 base f.kv f.kept d at_ ad dc (R.ent f hf) rfl (R.okv f hf) h hl hd).mono ?_
    rintro e w' ⟨rfl, ho, hg⟩
    have hO : Only (f.eb :: f.kv.ownBlock.toList) w w' := (Only.of_grown hg).mono (fun j hj => List.mem_cons_of_mem _ hj)
    have hB : Blk w' f.eb #[f.sv, f.kv] 119 := (Only.of_grown hg).blk (R.ent f hf) (fun hm => hek f.eb (by simpa using hm) rfl)
    have R' := R.setK hf f.kv (putL f.kept at_ d) (fun g hg => .inl hg) hO hB (by unfold putL; rw [if_pos h]; exact ho)
    exact ⟨rfl, hO, f.kv, _, fun g hg => .inl hg, R'⟩
  · refine (put_out w f.eb 1 #[f.sv, f.kv] 119 base f.kv f.kept at_ _ (R.ent f hf) rfl (R.okv f hf) (by omega)).mono ?_
    rintro e w' ⟨rfl, rfl⟩
    refine ⟨rfl, Only.refl _ _, f.kv, who, fun g hg => .inl hg, ?_⟩
    rw [upd_self R.nodup hf _ (by unfold putL; rw [if_neg h])]
    exact R

set_option maxHeartbeats 2000000 in
set_option maxRecDepth 10000 in
theorem take_any2 (w : World) (base b : Nat) (D : DS) (who : Nat → Nat) (R : Rep w base b D who) (f : FL) (hf : f ∈ D.fs) (c : Ch) (h64 : c.data.length = 64) (hsec : c.sector = -1 ∨ (0 ≤ c.sector ∧ c.sector ≤ 16384)) (hsz : 0 ≤ c.size ∧ c.size ≤ 1048576)
    (k : Int) (hk : k ≤ 9223372036854775807) (hl : f.kept.length ≤ 1048576) :
    Calls Tryz.prog 53 #[.pointer (some ⟨f.eb, 1, none⟩), .agg c.cells.toArray, .int .i64 k] w fun e w' => e = .returned (.tuple #[]) ∧ Only (f.eb :: f.kv.ownBlock.toList) w w' ∧
      ∃ v' who', (∀ g, v'.ownBlock = some g → f.kv.ownBlock = some g ∨ w.heap.size ≤ g) ∧ Rep w' base b { D with fs := upd D.fs f.born fun x => { x with kv := v', kept := takeL f.kept c k } } who' := by
  have HR := hide (R.alloc (.cells c.cells.toArray 112))
  have HB0 := hide (Only.alloc w (.cells c.cells.toArray 112) (f.eb :: f.kv.ownBlock.toList))
  have HFar := hide (R.far hf (Nat.le_refl _))
  have HC := hide (chg_cell w c h64)
  have HF := hide hf
  have HN := hide R.nodup
  obtain ⟨g1, g2, g0, gd⟩ := chg_get c
  have c1 : (w.alloc (.cells c.cells.toArray 112)).cell? ⟨w.heap.size, 1, none⟩ = some (.int .i64 c.sector) := ((chg_cell w c h64).cell 1).trans g1
  have c2 : (w.alloc (.cells c.cells.toArray 112)).cell? ⟨w.heap.size, 2, none⟩ = some (.int .i64 c.size) := ((chg_cell w c h64).cell 2).trans g2
  have HD : Hid (∀ V : World, V.heap[w.heap.size]? = some (.cells c.cells.toArray 112 (0, 0)) → ∀ j u, (bcs c.data)[j]? = some u → V.cell? ⟨w.heap.size, 3 + j, none⟩ = some u) := fun V hV j u hj => by
    rw [Blk.cell (show Blk V w.heap.size c.cells.toArray 112 from hV)]; exact gd j u hj
  have H64 := hide h64
  have HL := hide hl
  by_cases hk0 : k ≤ 0
  · clear R g1 g2 g0 gd h64 c1 c2 hf
    go_enter Tryz.func53, Tryz.ntmps53
    go_wp2
    go_end0
    refine ⟨rfl, HB0.out, f.kv, who, fun g hg => .inl hg, ?_⟩
    rw [upd_self HN.out HF.out _ (by unfold takeL; rw [if_pos hk0])]
    exact HR.out
  · by_cases hs : c.sector = -1
    · have HK : Hid (∀ V, Rep V base b D who → Calls Tryz.prog 97 #[.pointer (some ⟨f.eb, 1, none⟩), .int .i64 c.size] V fun e w' => e = .returned (.tuple #[]) ∧ Only (f.eb :: f.kv.ownBlock.toList) V w' ∧ ∃ v' who', (∀ g, v'.ownBlock = some g → f.kv.ownBlock = some g ∨ V.heap.size ≤ g) ∧ Rep w' base b { D with fs := upd D.fs f.born fun x => { x with kv := v', kept := takeL f.kept c k } } who') := fun V hV => by
        have := kresize2 V base b D who hV f hf c.size.toNat (by omega) hl
        rw [show ((c.size.toNat : Nat) : Int) = c.size by omega] at this
        refine this.mono ?_
        rintro e w' ⟨h1, h2, v', who', h4, h3⟩
        refine ⟨h1, h2, v', who', h4, ?_⟩
        rw [show takeL f.kept c k = rsz f.kept c.size.toNat by unfold takeL; rw [if_neg hk0, if_pos hs]]
        exact h3
      rw [hs] at c1
      clear R g1 g2 g0 gd h64 hf hs hsec hsz
      go_enter Tryz.func53, Tryz.ntmps53
      go_upto_region 4 with fail
      refine wp_region_held_drew (S := fun V => V.cell? ⟨w.heap.size, 2, none⟩ = some (.int .i64 c.size) ∧ True) (by kernel_rfl) ⟨c2, trivial⟩ ?_
      intro hHeld
      refine wpAnyH_take (i := 0) (v := .pointer (some ⟨f.eb, 1, none⟩)) rfl (by kernel_rfl) (by kernel_rfl) (by kernel_rfl) (fun _ _ _ h => h) (Or.inl ⟨by rfl, fun V hV => by (obtain ⟨f1, f2⟩ := hV; go_simp)⟩) hHeld ?_
      try simp only [Act.put, List.getElem_toArray, List.getElem_cons_zero, List.setIfInBounds_toArray, List.set_cons_zero, List.set_cons_succ]
      refine wpAnyH_take (i := 1) (v := .pointer (some ⟨f.eb, 1, none⟩)) rfl (by kernel_rfl) (by kernel_rfl) (by kernel_rfl) (fun _ _ _ h => h) (Or.inl ⟨by rfl, fun V hV => by (obtain ⟨f1, f2⟩ := hV; go_simp)⟩) hHeld ?_
      try simp only [Act.put, List.getElem_toArray, List.getElem_cons_succ, List.getElem_cons_zero, List.setIfInBounds_toArray, List.set_cons_zero, List.set_cons_succ]
      refine wpAnyH_take (i := 2) (v := .pointer (some ⟨f.eb, 1, none⟩)) rfl (by kernel_rfl) (by kernel_rfl) (by kernel_rfl) (fun _ _ _ h => h) (Or.inl ⟨by rfl, fun V hV => by (obtain ⟨f1, f2⟩ := hV; go_simp)⟩) hHeld ?_
      try simp only [Act.put, List.getElem_toArray, List.getElem_cons_succ, List.getElem_cons_zero, List.setIfInBounds_toArray, List.set_cons_zero, List.set_cons_succ]
      refine wpAnyH_take (i := 3) (v := .pointer (some ⟨w.heap.size, 2, none⟩)) rfl (by kernel_rfl) (by kernel_rfl) (by kernel_rfl) (fun _ _ _ h => h) (Or.inl ⟨by rfl, fun V hV => by (obtain ⟨f1, f2⟩ := hV; go_simp)⟩) hHeld ?_
      try simp only [Act.put, List.getElem_toArray, List.getElem_cons_succ, List.getElem_cons_zero, List.setIfInBounds_toArray, List.set_cons_zero, List.set_cons_succ]
      refine wpAnyH_take (i := 4) (v := .int .i64 c.size) rfl (by kernel_rfl) (by kernel_rfl) (by kernel_rfl) (fun _ _ _ h => h) (Or.inl ⟨by rfl, fun V hV => by (obtain ⟨f1, f2⟩ := hV; go_simp)⟩) hHeld ?_
      try simp only [Act.put, List.getElem_toArray, List.getElem_cons_succ, List.getElem_cons_zero, List.setIfInBounds_toArray, List.set_cons_zero, List.set_cons_succ]
      refine wpAnyH_ready (rs := [5]) (by kernel_rfl) (by simp) ?_
      refine AllReadyH.cons rfl (fun K hK => ?_) AllReadyH.nil
      go_simp
      go_at_call 97; refine Calls.mono (HK.out _ HR.out.drew) ?_; rintro e w3 ⟨rfl, hb3, v3, who3, hv3, R3⟩; have HX := hide hb3; have HR3 := hide R3; have HV3 := hide hv3; clear hb3 R3 hv3
      go_wp2_with fail
      refine hK.out _ _ ⟨?_, trivial⟩ (fun hHeld => ?_)
      · rw [World.cell?_of_block (HX.out.block w.heap.size (by simp) HFar.out)]
        exact c2
      · clear hK K
        refine wpAnyH_done (by kernel_rfl) ?_ _
        go_wp2_with fail
        go_end0
        exact ⟨rfl, HB0.out.trans ((Only.drew _ _).trans HX.out), v3, who3, fun g hg => (HV3.out g hg).imp id (fun h => Nat.le_trans HB0.out.size h), HR3.out⟩
    · have hs0 : 0 ≤ c.sector ∧ c.sector ≤ 16384 := by rcases hsec with h | h; exact absurd h hs; exact h
      have hk1 : 1 ≤ k := by omega
      have ha := arrN_le hk1
      have hdl : (c.data.take (arrN k)).length = arrN k := by rw [List.length_take]; omega
      have HA := hide (arrived_any k hk1 hk)
      have HK : Hid (∀ V dc, Rep V base b D who → V.heap[w.heap.size]? = some (.cells c.cells.toArray 112 (0, 0)) → Calls Tryz.prog 98 #[.pointer (some ⟨f.eb, 1, none⟩), .int .i64 (c.sector * 64), .slice (some ⟨w.heap.size, 3, none⟩) (arrN k) dc] V fun e w' => e = .returned (.tuple #[]) ∧ Only (f.eb :: f.kv.ownBlock.toList) V w' ∧ ∃ v' who', (∀ g, v'.ownBlock = some g → f.kv.ownBlock = some g ∨ V.heap.size ≤ g) ∧ Rep w' base b { D with fs := upd D.fs f.born fun x => { x with kv := v', kept := takeL f.kept c k } } who') := fun V dc hV hB => by
        have := kput2 V base b D who hV f hf (c.data.take (arrN k)) (c.sector.toNat * 64) ⟨w.heap.size, 3, none⟩ dc hl (fun j u hj => by
          have e : (⟨w.heap.size, 3, none⟩ : Addr).add j = ⟨w.heap.size, 3 + j, none⟩ := by unfold Addr.add; split <;> simp_all
          rw [e]
          refine HD.out V hB j u ?_
          rw [bcs_take, List.getElem?_take] at hj
          split at hj
          · exact hj
          · cases hj)
        rw [hdl, show ((c.sector.toNat * 64 : Nat) : Int) = c.sector * 64 by omega] at this
        refine this.mono ?_
        rintro e w' ⟨h1, h2, v', who', h4, h3⟩
        refine ⟨h1, h2, v', who', h4, ?_⟩
        rw [show takeL f.kept c k = putL f.kept (c.sector.toNat * 64) (c.data.take (arrN k)) by unfold takeL; rw [if_neg hk0, if_neg hs]]
        exact h3
      have hw : IntKind.i64.wrap (c.sector * 64) = c.sector * 64 := by rw [IntKind.wrap_i64]; omega
      have hcut : ∀ V : World, (Instr.sliceAt 110 (.pointer (some ⟨w.heap.size, 3, none⟩)) none (some (.int .i64 (arrN k : Int))) none).run Tryz.prog V = .ok (.slice (some ⟨w.heap.size, 3, none⟩) (arrN k) 64) V := fun V => cut64 V w.heap.size 3 (arrN k) ha.2
      clear R g1 g2 g0 gd h64 hf hsec hsz hs0 ha hdl
      go_enter Tryz.func53, Tryz.ntmps53
      go_upto_region 1 with fail
      refine wp_region_held_drew (S := fun V => V.cell? ⟨w.heap.size, 1, none⟩ = some (.int .i64 c.sector) ∧ True) (by kernel_rfl) ⟨c1, trivial⟩ ?_
      intro hHeld
      refine wpAnyH_take (i := 0) (v := .pointer (some ⟨f.eb, 1, none⟩)) rfl (by kernel_rfl) (by kernel_rfl) (by kernel_rfl) (fun _ _ _ h => h) (Or.inl ⟨by rfl, fun V hV => by (obtain ⟨f1, f2⟩ := hV; go_simp)⟩) hHeld ?_
      try simp only [Act.put, List.getElem_toArray, List.getElem_cons_zero, List.setIfInBounds_toArray, List.set_cons_zero, List.set_cons_succ]
      refine wpAnyH_take (i := 1) (v := .pointer (some ⟨f.eb, 1, none⟩)) rfl (by kernel_rfl) (by kernel_rfl) (by kernel_rfl) (fun _ _ _ h => h) (Or.inl ⟨by rfl, fun V hV => by (obtain ⟨f1, f2⟩ := hV; go_simp)⟩) hHeld ?_
      try simp only [Act.put, List.getElem_toArray, List.getElem_cons_succ, List.getElem_cons_zero, List.setIfInBounds_toArray, List.set_cons_zero, List.set_cons_succ]
      refine wpAnyH_take (i := 2) (v := .pointer (some ⟨f.eb, 1, none⟩)) rfl (by kernel_rfl) (by kernel_rfl) (by kernel_rfl) (fun _ _ _ h => h) (Or.inl ⟨by rfl, fun V hV => by (obtain ⟨f1, f2⟩ := hV; go_simp)⟩) hHeld ?_
      try simp only [Act.put, List.getElem_toArray, List.getElem_cons_succ, List.getElem_cons_zero, List.setIfInBounds_toArray, List.set_cons_zero, List.set_cons_succ]
      refine wpAnyH_take (i := 3) (v := .pointer (some ⟨w.heap.size, 1, none⟩)) rfl (by kernel_rfl) (by kernel_rfl) (by kernel_rfl) (fun _ _ _ h => h) (Or.inl ⟨by rfl, fun V hV => by (obtain ⟨f1, f2⟩ := hV; go_simp)⟩) hHeld ?_
      try simp only [Act.put, List.getElem_toArray, List.getElem_cons_succ, List.getElem_cons_zero, List.setIfInBounds_toArray, List.set_cons_zero, List.set_cons_succ]
      refine wpAnyH_take (i := 4) (v := .int .i64 c.sector) rfl (by kernel_rfl) (by kernel_rfl) (by kernel_rfl) (fun _ _ _ h => h) (Or.inl ⟨by rfl, fun V hV => by (obtain ⟨f1, f2⟩ := hV; go_simp)⟩) hHeld ?_
      try simp only [Act.put, List.getElem_toArray, List.getElem_cons_succ, List.getElem_cons_zero, List.setIfInBounds_toArray, List.set_cons_zero, List.set_cons_succ]
      refine wpAnyH_take (i := 5) (v := .int .i64 (c.sector * 64)) rfl (by kernel_rfl) (by kernel_rfl) (by kernel_rfl) (fun _ _ _ h => h) (Or.inl ⟨by rfl, fun V hV => by (obtain ⟨f1, f2⟩ := hV; go_simp)⟩) hHeld ?_
      try simp only [Act.put, List.getElem_toArray, List.getElem_cons_succ, List.getElem_cons_zero, List.setIfInBounds_toArray, List.set_cons_zero, List.set_cons_succ]
      refine wpAnyH_take (i := 6) (v := .pointer (some ⟨w.heap.size, 3, none⟩)) rfl (by kernel_rfl) (by kernel_rfl) (by kernel_rfl) (fun _ _ _ h => h) (Or.inl ⟨by rfl, fun V hV => by (obtain ⟨f1, f2⟩ := hV; go_simp)⟩) hHeld ?_
      try simp only [Act.put, List.getElem_toArray, List.getElem_cons_succ, List.getElem_cons_zero, List.setIfInBounds_toArray, List.set_cons_zero, List.set_cons_succ]
      refine wpAnyH_take (i := 7) (v := .int .i64 k) rfl (by kernel_rfl) (by kernel_rfl) (by kernel_rfl) (fun _ _ _ h => h) (Or.inl ⟨by rfl, fun V hV => by (obtain ⟨f1, f2⟩ := hV; go_simp)⟩) hHeld ?_
      try simp only [Act.put, List.getElem_toArray, List.getElem_cons_succ, List.getElem_cons_zero, List.setIfInBounds_toArray, List.set_cons_zero, List.set_cons_succ]
      refine wpAnyH_ready (rs := [8]) (by kernel_rfl) (by simp) ?_
      refine AllReadyH.cons rfl (fun K hK => ?_) AllReadyH.nil
      go_simp
      go_at_call 99; refine Calls.mono (HA.out _) ?_; rintro e w3 ⟨rfl, rfl⟩
      go_wp2_with fail
      refine hK.out _ _ ⟨c1, trivial⟩ (fun hHeld => ?_)
      clear hK K
      try simp only [Act.put, List.getElem_toArray, List.getElem_cons_succ, List.getElem_cons_zero, List.setIfInBounds_toArray, List.set_cons_zero, List.set_cons_succ]
      refine wpAnyH_take (i := 9) (v := .slice (some ⟨w.heap.size, 3, none⟩) (arrN k) 64) rfl (by kernel_rfl) (by kernel_rfl) (by kernel_rfl) (fun _ _ _ h => h) (Or.inl ⟨by rfl, fun V hV => by (obtain ⟨f1, f2⟩ := hV; go_simp)⟩) hHeld ?_
      try simp only [Act.put, List.getElem_toArray, List.getElem_cons_succ, List.getElem_cons_zero, List.setIfInBounds_toArray, List.set_cons_zero, List.set_cons_succ]
      refine wpAnyH_ready (rs := [10]) (by kernel_rfl) (by simp) ?_
      refine AllReadyH.cons rfl (fun K hK => ?_) AllReadyH.nil
      go_simp
      go_at_call 98; refine Calls.mono (HK.out _ _ HR.out.drew HC.out) ?_; rintro e w3 ⟨rfl, hb3, v3, who3, hv3, R3⟩; have HX := hide hb3; have HR3 := hide R3; have HV3 := hide hv3; clear hb3 R3 hv3
      go_wp2_with fail
      refine hK.out _ _ ⟨?_, trivial⟩ (fun hHeld => ?_)
      · rw [World.cell?_of_block (HX.out.block w.heap.size (by simp) HFar.out)]
        exact c1
      · clear hK K
        refine wpAnyH_done (by kernel_rfl) ?_ _
        go_wp2_with fail
        go_end0
        exact ⟨rfl, HB0.out.trans ((Only.drew _ _).trans HX.out), v3, who3, fun g hg => (HV3.out g hg).imp id (fun h => Nat.le_trans HB0.out.size h), HR3.out⟩
end Go.Proofs.YteocmhbllckpjaaGreat
