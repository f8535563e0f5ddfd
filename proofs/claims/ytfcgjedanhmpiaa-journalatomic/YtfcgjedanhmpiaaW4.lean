/- Plain: what is kept and all its changes is what is seen. -/
/- Plain: what is kept behind a restart with choices. -/
import Derived.Test.YtfcgjedanhmpiaaV8
import Derived.Test.YtfcgjedanhmpiaaV11
namespace Go.Proofs.Ytfcgjedanhmpiaa
open Go.ChangeShapes Go.WideShapes Go.ChangeAt Go.RowKit
set_option linter.unusedVariables false

theorem arrN_one : arrN 1 = 64 := rfl
theorem isN_self (nm : ByteArray) (s z : Int) (d : List UInt8) : isN nm ⟨nm, s, z, d⟩ = true := by simp [isN]
theorem keepF_append (nm : ByteArray) (l : List UInt8) (a b : List Ch) : keepF nm l (a ++ b) = keepF nm (keepF nm l a) b := by unfold keepF; rw [List.foldl_append]
theorem rsz_self (l : List UInt8) : rsz l l.length = l := by unfold rsz; rw [if_pos (Nat.le_refl _), List.take_of_length_le (Nat.le_refl _)]
theorem rsz_grown (l : List UInt8) (n : Nat) (h : l.length < n) : rsz l n = grownTo l n := by unfold rsz grownTo; rw [if_neg (by omega), if_pos h]
/-- A sector taken whole. -/
theorem take_sec (nm : ByteArray) (l t : List UInt8) (k : Nat) (hlen : l.length = t.length) (hk : k * 64 < t.length) : takeL l ⟨nm, (k : Int), 0, secOf t k⟩ 1 = splice l (k * 64) ((t.drop (k * 64)).take 64) := by
  unfold takeL
  rw [if_neg (by decide)]
  have hs : ¬ (k : Int) = -1 := by omega
  rw [if_neg hs]
  show putL l ((k : Int).toNat * 64) ((secOf t k).take (arrN 1)) = _
  rw [Int.toNat_natCast, arrN_one]
  unfold putL
  rw [if_pos (by omega)]
  have h64 := length_secOf t k
  rw [List.take_of_length_le (l := secOf t k) (by omega)]
  congr 1
  unfold secOf splice
  rw [List.take_zero, List.nil_append, Nat.zero_add]
  have hd : ((t.drop (k * 64)).take 64).length = min 64 (t.length - k * 64) := by rw [List.length_take, List.length_drop]
  rw [List.take_append, hd]
  by_cases h : t.length - k * 64 ≤ 64
  · rw [List.take_of_length_le (by rw [hd]; omega), show l.length - k * 64 - min 64 (t.length - k * 64) = 0 by omega, List.take_zero, List.append_nil]
  · have hz : List.drop (min 64 (t.length - k * 64)) (List.replicate 64 (0 : UInt8)) = [] := List.drop_of_length_le (by rw [List.length_replicate]; omega)
    rw [List.take_of_length_le (by rw [hd]; omega), hz, List.take_nil, List.append_nil]
/-- Sectors taken one behind the other. -/
theorem keep_secs (nm : ByteArray) (t : List UInt8) : ∀ (n k0 : Nat) (l : List UInt8), l.length = t.length → (∀ k, k0 ≤ k → k < k0 + n → k * 64 < t.length) → (∀ i, i < k0 * 64 → l[i]? = t[i]?) → (∀ i, (k0 + n) * 64 ≤ i → l[i]? = t[i]?) → keepF nm l (secs nm t k0 n) = t
  | 0, k0, l, hl, hk, h1, h2 => by
    show l = t
    apply List.ext_getElem?
    intro i
    by_cases h : i < k0 * 64
    · exact h1 i h
    · exact h2 i (by omega)
  | n + 1, k0, l, hl, hk, h1, h2 => by
    have hs : secs nm t k0 (n + 1) = ⟨nm, (k0 : Int), 0, secOf t k0⟩ :: secs nm t (k0 + 1) n := by simp [secs, List.range'_succ]
    rw [hs]
    show keepF nm (if isN nm ⟨nm, (k0 : Int), 0, secOf t k0⟩ then takeL l ⟨nm, (k0 : Int), 0, secOf t k0⟩ 1 else l) (secs nm t (k0 + 1) n) = t
    rw [isN_self, if_pos rfl, take_sec nm l t k0 hl (hk k0 (by omega) (by omega))]
    have hd : ((t.drop (k0 * 64)).take 64).length = min 64 (t.length - k0 * 64) := by rw [List.length_take, List.length_drop]
    have hk0 := hk k0 (by omega) (by omega)
    have hspl : (splice l (k0 * 64) ((t.drop (k0 * 64)).take 64)).length = l.length := length_splice _ _ _ (by omega)
    have hget : ∀ i, (splice l (k0 * 64) ((t.drop (k0 * 64)).take 64))[i]? = if i < k0 * 64 then l[i]? else if i < k0 * 64 + min 64 (t.length - k0 * 64) then t[i]? else l[i]? := fun i => by
      unfold splice
      have hta : (l.take (k0 * 64)).length = k0 * 64 := by rw [List.length_take]; omega
      by_cases hi : i < k0 * 64
      · rw [if_pos hi, List.getElem?_append_left (by omega), List.getElem?_take, if_pos hi]
      · rw [if_neg hi, List.getElem?_append_right (by omega), hta]
        by_cases hi2 : i < k0 * 64 + min 64 (t.length - k0 * 64)
        · rw [if_pos hi2, List.getElem?_append_left (by omega), List.getElem?_take, if_pos (by omega), List.getElem?_drop, show k0 * 64 + (i - k0 * 64) = i by omega]
        · rw [if_neg hi2, List.getElem?_append_right (by omega), List.getElem?_drop, hd]
          congr 1
          omega
    refine keep_secs nm t n (k0 + 1) _ (by omega) (fun k a b => hk k (by omega) (by omega)) (fun i hi => ?_) (fun i hi => ?_)
    · rw [hget]
      split
      · exact h1 i (by assumption)
      · split
        · rfl
        · have e1 : l[i]? = none := by rw [List.getElem?_eq_none_iff]; omega
          have e2 : t[i]? = none := by rw [List.getElem?_eq_none_iff]; omega
          rw [e1, e2]
    · rw [hget, if_neg (by omega)]
      split
      · rfl
      · exact h2 i (by omega)
/-- What a write notes is what it does. -/
theorem keep_wchs (nm : ByteArray) (l d : List UInt8) (at_ : Nat) (hd : 0 < d.length) : keepF nm l (wchs nm l at_ d) = wseen l at_ d := by
  unfold wchs
  rw [keepF_append]
  have hg : keepF nm l (wsize nm l (at_ + d.length)) = grownTo l (at_ + d.length) := by
    unfold wsize
    by_cases h : l.length < at_ + d.length
    · rw [if_pos h]
      show (if isN nm ⟨nm, -1, ((at_ + d.length : Nat) : Int), List.replicate 64 0⟩ then takeL l ⟨nm, -1, ((at_ + d.length : Nat) : Int), List.replicate 64 0⟩ 1 else l) = _
      rw [isN_self, if_pos rfl]
      unfold takeL
      rw [if_neg (by decide), if_pos rfl]
      show rsz l ((at_ + d.length : Nat) : Int).toNat = _
      rw [Int.toNat_natCast, rsz_grown l _ h]
    · rw [if_neg h]
      show l = _
      unfold grownTo
      rw [if_neg h]
  rw [hg]
  have hgl := length_grownTo l (at_ + d.length)
  have hwl := length_wseen l at_ d
  have hget : ∀ i, (wseen l at_ d)[i]? = if i < at_ then (grownTo l (at_ + d.length))[i]? else if i < at_ + d.length then d[i - at_]? else (grownTo l (at_ + d.length))[i]? := fun i => by
    unfold wseen splice
    have hta : ((grownTo l (at_ + d.length)).take at_).length = at_ := by rw [List.length_take]; omega
    by_cases hi : i < at_
    · rw [if_pos hi, List.getElem?_append_left (by omega), List.getElem?_take, if_pos hi]
    · rw [if_neg hi, List.getElem?_append_right (by omega), hta]
      by_cases hi2 : i < at_ + d.length
      · rw [if_pos hi2, List.getElem?_append_left (by omega)]
      · rw [if_neg hi2, List.getElem?_append_right (by omega), List.getElem?_drop]
        congr 1
        omega
  refine keep_secs nm (wseen l at_ d) _ (at_ / 64) _ (by omega) (fun k h1 h2 => by omega) (fun i hi => ?_) (fun i hi => ?_)
  · rw [hget, if_pos (by omega)]
  · rw [hget, if_neg (by omega), if_neg (by omega)]
end Go.Proofs.Ytfcgjedanhmpiaa

namespace Go.Proofs.Ytfcgjedanhmpiaa
open Go.ChangeShapes Go.WideShapes Go.ChangeAt Go.RowKit
set_option linter.unusedVariables false

/-- What is kept of a file behind the first j changes, taken by their choices. -/
def keptJ (chs : List Ch) (ch : Nat → Int) (nm : ByteArray) (l : List UInt8) : Nat → List UInt8
  | 0 => l
  | j + 1 => match chs[j]? with
    | some c => if isN nm c then takeL (keptJ chs ch nm l j) c (ch j) else keptJ chs ch nm l j
    | none => keptJ chs ch nm l j
theorem keptJ_succ {chs : List Ch} {ch : Nat → Int} {nm : ByteArray} {l : List UInt8} {j : Nat} {c : Ch} (h : chs[j]? = some c) : keptJ chs ch nm l (j + 1) = if isN nm c then takeL (keptJ chs ch nm l j) c (ch j) else keptJ chs ch nm l j := by
  rw [keptJ, h]
/-- All choices 1: as if it had been kept. -/
theorem keptJ_one (chs : List Ch) (ch : Nat → Int) (nm : ByteArray) (l : List UInt8) : ∀ j, j ≤ chs.length → (∀ i, i < j → ch i = 1) → keptJ chs ch nm l j = keepF nm l (chs.take j)
  | 0, _, _ => rfl
  | j + 1, hj, h => by
    obtain ⟨c, hc⟩ : ∃ c, chs[j]? = some c := ⟨chs[j], List.getElem?_eq_getElem (by omega)⟩
    rw [keptJ_succ hc, keepF_succ hc, keptJ_one chs ch nm l j (by omega) (fun i hi => h i (by omega)), h j (by omega)]
/-- No choice: as it was. -/
theorem keptJ_none (chs : List Ch) (ch : Nat → Int) (nm : ByteArray) (l : List UInt8) (h : ∀ i, ch i ≤ 0) : ∀ j, keptJ chs ch nm l j = l
  | 0 => rfl
  | j + 1 => by
    have ih := keptJ_none chs ch nm l h j
    rw [keptJ]
    split
    · rw [ih]
      split
      · unfold takeL
        rw [if_pos (h j)]
      · rfl
    · exact ih
/-- Between two rounds over the changes. -/
structure TakeI (D Dj : DS) (ch : Nat → Int) (j : Nat) : Prop where
  same : Dj = { D with fs := Dj.fs }
  from_ : ∀ f ∈ Dj.fs, ∃ f0 ∈ D.fs, f0.born = f.born ∧ f0.name = f.name ∧ f.kept = keptJ D.chs ch f0.name f0.kept j
  all_ : ∀ f0 ∈ D.fs, ∃ f ∈ Dj.fs, f.born = f0.born ∧ f.name = f0.name
  uniq : Uniq Dj.fs
  kl : ∀ f ∈ Dj.fs, f.kept.length ≤ 1048576
theorem TakeI.zero {D : DS} {ch : Nat → Int} (hU : Uniq D.fs) (hk : ∀ f ∈ D.fs, f.kept.length ≤ 1048576) : TakeI D D ch 0 :=
  ⟨rfl, fun f hf => ⟨f, hf, rfl, rfl, rfl⟩, fun f hf => ⟨f, hf, rfl, rfl⟩, hU, hk⟩
theorem TakeI.step {D Dj : DS} {ch : Nat → Int} {j : Nat} (h : TakeI D Dj ch j) (hn : (Dj.fs.map (·.born)).Nodup) {c : Ch} (hc : D.chs[j]? = some c) (hs : 0 ≤ c.size ∧ c.size ≤ 1048576) {f : FL} (hl : look Dj.fs c.name = some f) (v : Value) :
    TakeI D (takeD Dj f v (takeL f.kept c (ch j))) ch (j + 1) := by
  obtain ⟨hf, hnm⟩ := look_some hl
  have hN : isN f.name c = true := by unfold isN; rw [hnm]; simp
  refine ⟨?_, fun f' hf' => ?_, fun f0 h0 => ?_, ?_, fun f' hf' => ?_⟩
  · unfold takeD
    rw [h.same]
  · obtain ⟨x, hx, ⟨e, rfl⟩ | ⟨e, rfl⟩⟩ := mem_upd hf'
    · obtain rfl : x = f := FL.inj hn hx hf e
      obtain ⟨f0, h0, h1, h2, h3⟩ := h.from_ x hx
      refine ⟨f0, h0, h1, h2, ?_⟩
      rw [keptJ_succ hc, h2, hN, if_pos rfl, ← h2, ← h3]
    · obtain ⟨f0, h0, h1, h2, h3⟩ := h.from_ f' hx
      refine ⟨f0, h0, h1, h2, ?_⟩
      rw [keptJ_succ hc, h2]
      cases hb : isN f'.name c with
      | false => rw [← h2]; simpa using h3
      | true =>
        exfalso
        have e1 := isN_eq hb
        have e2 := h.uniq f' hx
        rw [← e1, hl] at e2
        cases e2
        exact e rfl
  · obtain ⟨x, hx, h1, h2⟩ := h.all_ f0 h0
    by_cases e : x.born = f.born
    · obtain rfl : x = f := FL.inj hn hx hf e
      exact ⟨_, mem_upd_self hx (fun y => { y with kv := v, kept := takeL x.kept c (ch j) }), h1, h2⟩
    · refine ⟨x, ?_, h1, h2⟩
      show x ∈ upd Dj.fs f.born _
      simp only [upd, List.mem_map]
      exact ⟨x, hx, by rw [if_neg e]⟩
  · exact h.uniq.upd f.born (fun y => { y with kv := v, kept := takeL f.kept c (ch j) }) (fun _ => rfl)
  · obtain ⟨x, hx, ⟨e, rfl⟩ | ⟨e, rfl⟩⟩ := mem_upd hf'
    · exact length_takeL (h.kl f hf) hs
    · exact h.kl f' hx
/-- What Restart with choices makes of a disk. -/
structure Restc (D D' : DS) (ch : Nat → Int) : Prop where
  chs : D'.chs = []
  fuse : D'.fuse = 0
  steps : D'.steps = 0
  down : D'.down = false
  starts : D'.starts = D.starts + 1
  room : D'.room = D.room
  each : ∀ f ∈ D'.fs, f.seen = f.kept ∧ f.kept ≠ [] ∧ ∃ f0 ∈ D.fs, f0.born = f.born ∧ f0.name = f.name ∧ f.kept = keptJ D.chs ch f0.name f0.kept D.chs.length
  all_ : ∀ f0 ∈ D.fs, keptJ D.chs ch f0.name f0.kept D.chs.length ≠ [] → ∃ f ∈ D'.fs, f.born = f0.born ∧ f.name = f0.name
  uniq : Uniq D'.fs
end Go.Proofs.Ytfcgjedanhmpiaa
