/- Plain: what is kept behind a restart with choices. -/
import Derived.Test.YtefcconbpomedaaV11
import Derived.Test.YtefcconbpomedaaW3
namespace Go.Proofs.Ytefcconbpomedaa
open Go.ChangeShapes Go.WideShapes Go.ChangeAt Go.RowKit
set_option linter.unusedVariables false

/-- What is kept of a file behind the first j changes, taken by their choices. -/
def keptJ (chs : List Ch) (ch : Nat → Int) (nm : ByteArray) (l : List UInt8) : Nat → List UInt8
  | 0 => l
  | j + 1 => match chs[j]? with
    | some c => if isN nm c then takeL (keptJ chs ch nm l j) c (ch j) else keptJ chs ch nm l j
    | none => keptJ chs ch nm l j
theorem keptJ_succ {chs : List Ch} {ch : Nat → Int} {nm : ByteArray} {l : List UInt8} {j : Nat} {c : Ch} (h : chs[j]? = some c) : keptJ chs ch nm l (j + 1) = if isN nm c then takeL (keptJ chs ch nm l j) c (ch j) else keptJ chs ch nm l j := by
  rw [keptJ, h]
/-- All choices 1: as if it had been kept. -/
theorem keptJ_one (chs : List Ch) (ch : Nat → Int) (nm : ByteArray) (l : List UInt8) : ∀ j, j ≤ chs.length → (∀ i, i < j → ch i = 1) → keptJ chs ch nm l j = keepF nm l (chs.take j)
  | 0, _, _ => rfl
  | j + 1, hj, h => by
    obtain ⟨c, hc⟩ : ∃ c, chs[j]? = some c := ⟨chs[j], List.getElem?_eq_getElem (by omega)⟩
    rw [keptJ_succ hc, keepF_succ hc, keptJ_one chs ch nm l j (by omega) (fun i hi => h i (by omega)), h j (by omega)]
/-- No choice: as it was. -/
theorem keptJ_none (chs : List Ch) (ch : Nat → Int) (nm : ByteArray) (l : List UInt8) (h : ∀ i, ch i ≤ 0) : ∀ j, keptJ chs ch nm l j = l
  | 0 => rfl
  | j + 1 => by
    have ih := keptJ_none chs ch nm l h j
    rw [keptJ]
    split
    · rw [ih]
      split
      · unfold takeL
        rw [if_pos (h j)]
      · rfl
    · exact ih
/-- Between two rounds over the changes. -/
structure TakeI (D Dj : DS) (ch : Nat → Int) (j : Nat) : Prop where
  same : Dj = { D with fs := Dj.fs }
  from_ : ∀ f ∈ Dj.fs, ∃ f0 ∈ D.fs, f0.born = f.born ∧ f0.name = f.name ∧ f.kept = keptJ D.chs ch f0.name f0.kept j
  all_ : ∀ f0 ∈ D.fs, ∃ f ∈ Dj.fs, f.born = f0.born ∧ f.name = f0.name
  uniq : Uniq Dj.fs
  kl : ∀ f ∈ Dj.fs, f.kept.length ≤ 1048576
theorem TakeI.zero {D : DS} {ch : Nat → Int} (hU : Uniq D.fs) (hk : ∀ f ∈ D.fs, f.kept.length ≤ 1048576) : TakeI D D ch 0 :=
  ⟨rfl, fun f hf => ⟨f, hf, rfl, rfl, rfl⟩, fun f hf => ⟨f, hf, rfl, rfl⟩, hU, hk⟩
theorem TakeI.step {D Dj : DS} {ch : Nat → Int} {j : Nat} (h : TakeI D Dj ch j) (hn : (Dj.fs.map (·.born)).Nodup) {c : Ch} (hc : D.chs[j]? = some c) (hs : 0 ≤ c.size ∧ c.size ≤ 1048576) {f : FL} (hl : look Dj.fs c.name = some f) (v : Value) :
    TakeI D (takeD Dj f v (takeL f.kept c (ch j))) ch (j + 1) := by
  obtain ⟨hf, hnm⟩ := look_some hl
  have hN : isN f.name c = true := by unfold isN; rw [hnm]; simp
  refine ⟨?_, fun f' hf' => ?_, fun f0 h0 => ?_, ?_, fun f' hf' => ?_⟩
  · unfold takeD
    rw [h.same]
  · obtain ⟨x, hx, ⟨e, rfl⟩ | ⟨e, rfl⟩⟩ := mem_upd hf'
    · obtain rfl : x = f := FL.inj hn hx hf e
      obtain ⟨f0, h0, h1, h2, h3⟩ := h.from_ x hx
      refine ⟨f0, h0, h1, h2, ?_⟩
      rw [keptJ_succ hc, h2, hN, if_pos rfl, ← h2, ← h3]
    · obtain ⟨f0, h0, h1, h2, h3⟩ := h.from_ f' hx
      refine ⟨f0, h0, h1, h2, ?_⟩
      rw [keptJ_succ hc, h2]
      cases hb : isN f'.name c with
      | false => rw [← h2]; simpa using h3
      | true =>
        exfalso
        have e1 := isN_eq hb
        have e2 := h.uniq f' hx
        rw [← e1, hl] at e2
        cases e2
        exact e rfl
  · obtain ⟨x, hx, h1, h2⟩ := h.all_ f0 h0
    by_cases e : x.born = f.born
    · obtain rfl : x = f := FL.inj hn hx hf e
      exact ⟨_, mem_upd_self hx (fun y => { y with kv := v, kept := takeL x.kept c (ch j) }), h1, h2⟩
    · refine ⟨x, ?_, h1, h2⟩
      show x ∈ upd Dj.fs f.born _
      simp only [upd, List.mem_map]
      exact ⟨x, hx, by rw [if_neg e]⟩
  · exact h.uniq.upd f.born (fun y => { y with kv := v, kept := takeL f.kept c (ch j) }) (fun _ => rfl)
  · obtain ⟨x, hx, ⟨e, rfl⟩ | ⟨e, rfl⟩⟩ := mem_upd hf'
    · exact length_takeL (h.kl f hf) hs
    · exact h.kl f' hx
/-- What Restart with choices makes of a disk. -/
structure Restc (D D' : DS) (ch : Nat → Int) : Prop where
  chs : D'.chs = []
  fuse : D'.fuse = 0
  steps : D'.steps = 0
  down : D'.down = false
  starts : D'.starts = D.starts + 1
  room : D'.room = D.room
  each : ∀ f ∈ D'.fs, f.seen = f.kept ∧ f.kept ≠ [] ∧ ∃ f0 ∈ D.fs, f0.born = f.born ∧ f0.name = f.name ∧ f.kept = keptJ D.chs ch f0.name f0.kept D.chs.length
  all_ : ∀ f0 ∈ D.fs, keptJ D.chs ch f0.name f0.kept D.chs.length ≠ [] → ∃ f ∈ D'.fs, f.born = f0.born ∧ f.name = f0.name
  uniq : Uniq D'.fs
end Go.Proofs.Ytefcconbpomedaa
