/- A disk is started again: the plain part, and what memory keeps. -/
import Derived.Test.YtefcconbpomedaaV9
namespace Go.Proofs.Ytefcconbpomedaa
open Go.ChangeShapes Go.WideShapes Go.ChangeAt Go.RowKit
open Go.ChangeMaps (setBlock)
set_option linter.unusedVariables false

/-- Each file is found by its name. -/
def Uniq (fs : List FL) : Prop := ∀ f ∈ fs, look fs f.name = some f
theorem name_eq {a b : ByteArray} (h : (a == b) = true) : a = b := by
  have h1 : (a.data == b.data) = true := h
  have h2 := eq_of_beq h1
  cases a; cases b; simp_all
theorem look_some {fs : List FL} {nm : ByteArray} {f : FL} (h : look fs nm = some f) : f ∈ fs ∧ nm = f.name := by
  refine ⟨List.mem_of_find?_eq_some h, ?_⟩
  have := List.find?_some h
  exact name_eq this
theorem look_mem {fs : List FL} {f : FL} (h : f ∈ fs) : ∃ g, look fs f.name = some g := by
  cases hl : look fs f.name with
  | some g => exact ⟨g, rfl⟩
  | none =>
    have := List.find?_eq_none.1 hl f h
    exact absurd (bytes_beq f.name) this
theorem Uniq.sub {fs gs : List FL} (h : Uniq fs) (hs : ∀ f ∈ gs, f ∈ fs) : Uniq gs := fun f hf => by
  obtain ⟨g, hg⟩ := look_mem hf
  obtain ⟨h1, h2⟩ := look_some hg
  have e1 := h f (hs f hf)
  have e2 := h g (hs g h1)
  rw [h2] at e1
  rw [e1] at e2
  cases e2
  rw [← h2]
  exact hg
theorem Uniq.upd {fs : List FL} (h : Uniq fs) (i : Nat) (g : FL → FL) (hg : ∀ f, (g f).name = f.name) : Uniq (upd fs i g) := by
  have key : ∀ nm, look (Go.Proofs.Ytefcconbpomedaa.upd fs i g) nm = (look fs nm).map (fun f => if f.born = i then g f else f) := fun nm => by
    unfold look Go.Proofs.Ytefcconbpomedaa.upd
    rw [List.find?_map]
    congr 1
    congr 1
    funext x
    simp only [Function.comp]
    split
    · rw [hg]
    · rfl
  intro f hf
  unfold Go.Proofs.Ytefcconbpomedaa.upd at hf
  obtain ⟨x, hx, rfl⟩ := List.mem_map.1 hf
  rw [key]
  have hn : (if x.born = i then g x else x).name = x.name := by split; exact hg x; rfl
  rw [hn, h x hx]
  rfl
/-- Between two rounds over the files. -/
structure RestI (D Dk : DS) (seen : Array Nat) : Prop where
  same : Dk.mb = D.mb ∧ Dk.clock = D.clock ∧ Dk.cv = D.cv ∧ Dk.chs = D.chs ∧ Dk.room = D.room ∧ Dk.fuse = D.fuse ∧ Dk.steps = D.steps ∧ Dk.starts = D.starts ∧ Dk.down = D.down
  from_ : ∀ f ∈ Dk.fs, ∃ f0 ∈ D.fs, f0.born = f.born ∧ f0.name = f.name ∧ f0.kept = f.kept
  done_ : ∀ f ∈ Dk.fs, seen.contains f.born = true → f.seen = f.kept ∧ f.kept ≠ []
  all_ : ∀ f0 ∈ D.fs, f0.kept ≠ [] → ∃ f ∈ Dk.fs, f.born = f0.born
  uniq : Uniq Dk.fs
theorem contains_push {s : Array Nat} {a x : Nat} (h : (s.push a).contains x = true) : s.contains x = true ∨ x = a := by
  simpa using h
theorem RestI.step {D Dk : DS} {seen : Array Nat} (h : RestI D Dk seen) (hnD : (D.fs.map (·.born)).Nodup) (hn : (Dk.fs.map (·.born)).Nodup) {f : FL} (hf : f ∈ Dk.fs) (v : Value) :
    RestI D (forgetD { Dk with fs := upd Dk.fs f.born fun x => { x with sv := v, seen := f.kept } } f.name) (seen.push f.born) := by
  have hlk : look (upd Dk.fs f.born fun x => { x with sv := v, seen := f.kept }) f.name = some { f with sv := v, seen := f.kept } := look_upd hn (h.uniq f hf) (fun x => { x with sv := v, seen := f.kept }) (fun _ => rfl)
  have hU := h.uniq.upd f.born (fun x => { x with sv := v, seen := f.kept }) (fun _ => rfl)
  have key : ∀ f' ∈ upd Dk.fs f.born (fun x => { x with sv := v, seen := f.kept }), (f' = { f with sv := v, seen := f.kept }) ∨ (f' ∈ Dk.fs ∧ f'.born ≠ f.born) := fun f' hf' => by
    obtain ⟨x, hx, ⟨e, rfl⟩ | ⟨e, rfl⟩⟩ := mem_upd hf'
    · have : x = f := FL.inj hn hx hf e
      subst this; exact .inl rfl
    · exact .inr ⟨hx, e⟩
  have hfl : flen { Dk with fs := upd Dk.fs f.born fun x => { x with sv := v, seen := f.kept } } f.name = f.kept.length := by
    unfold flen
    rw [hlk]
    rfl
  have hfrom : ∀ f' ∈ upd Dk.fs f.born (fun x => { x with sv := v, seen := f.kept }), ∃ f0 ∈ D.fs, f0.born = f'.born ∧ f0.name = f'.name ∧ f0.kept = f'.kept := fun f' hf' => by
    rcases key f' hf' with rfl | ⟨hx, _⟩
    · exact h.from_ f hf
    · exact h.from_ f' hx
  have hall : ∀ f0 ∈ D.fs, f0.kept ≠ [] → ∃ f' ∈ upd Dk.fs f.born (fun x => { x with sv := v, seen := f.kept }), f'.born = f0.born := fun f0 h0 hk => by
    obtain ⟨x, hx, e⟩ := h.all_ f0 h0 hk
    by_cases e2 : x.born = f.born
    · exact ⟨_, mem_upd_self hf (fun x => { x with sv := v, seen := f.kept }), by rw [← e, e2]⟩
    · refine ⟨x, ?_, e⟩
      unfold upd
      exact List.mem_map.2 ⟨x, hx, by rw [if_neg e2]⟩
  unfold forgetD
  rw [hfl]
  by_cases h0 : f.kept.length = 0
  · rw [if_pos h0]
    dsimp only
    rw [hlk]
    have hk0 : f.kept = [] := List.length_eq_zero_iff.1 h0
    refine ⟨h.same, fun f' hf' => ?_, fun f' hf' hs => ?_, fun f0 hm hk => ?_, ?_⟩
    · exact hfrom f' (List.mem_filter.1 hf').1
    · obtain ⟨h1, h2⟩ := List.mem_filter.1 hf'
      have hb : f'.born ≠ f.born := by simpa using h2
      rcases key f' h1 with rfl | ⟨hx, _⟩
      · exact absurd rfl hb
      · rcases contains_push hs with h3 | h3
        · exact h.done_ f' hx h3
        · exact absurd h3 hb
    · obtain ⟨f', h1, h2⟩ := hall f0 hm hk
      refine ⟨f', List.mem_filter.2 ⟨h1, ?_⟩, h2⟩
      obtain ⟨f1, h3, h4, h5, h6⟩ := hfrom f' h1
      have hb : f'.born ≠ f.born := fun e => by
        obtain ⟨f2, g3, g4, g5, g6⟩ := h.from_ f hf
        have e0 : f2 = f0 := FL.inj hnD g3 hm (by rw [g4, ← h2, e])
        rw [e0] at g6
        exact hk (g6.trans hk0)
      simpa using hb
    · exact hU.sub (fun x hx => (List.mem_filter.1 hx).1)
  · rw [if_neg h0]
    have hk0 : f.kept ≠ [] := fun e => h0 (by rw [e]; rfl)
    refine ⟨h.same, hfrom, fun f' hf' hs => ?_, hall, hU⟩
    rcases key f' hf' with rfl | ⟨hx, hb⟩
    · exact ⟨rfl, hk0⟩
    · rcases contains_push hs with h3 | h3
      · exact h.done_ f' hx h3
      · exact absurd h3 hb
end Go.Proofs.Ytefcconbpomedaa
