/- DiskKeeps, plain: what the disk is between two changes to two files. -/
import Derived.Test.YtefcconbpomedaaW2
import Derived.Test.YtefcconbpomedaaW4
import Derived.Test.YtefcconbpomedaaV12
namespace Go.Proofs.Ytefcconbpomedaa
open Go.ChangeShapes Go.WideShapes Go.ChangeAt Go.RowKit
set_option linter.unusedVariables false

abbrev nmA : ByteArray := ⟨#[97]⟩
abbrev nmB : ByteArray := ⟨#[98]⟩
def keptOf (D : DS) (nm : ByteArray) : List UInt8 := ((look D.fs nm).map fun f => f.kept).getD []
theorem name_ne {a b : ByteArray} (h : a ≠ b) : (a == b) = false := by
  cases hb : a == b with
  | false => rfl
  | true => exact absurd (name_eq hb) h
theorem look_map {fs : List FL} (h : FL → FL) (hh : ∀ f, (h f).name = f.name) (nm : ByteArray) : look (fs.map h) nm = (look fs nm).map h := by
  unfold look
  induction fs with
  | nil => rfl
  | cons f r ih =>
    rw [List.map_cons, List.find?_cons, List.find?_cons, hh f]
    cases nm == f.name
    · exact ih
    · rfl
/-- A change is well formed. -/
def ChW (c : Ch) : Prop := (c.sector = -1 ∨ (0 ≤ c.sector ∧ c.sector ≤ 16384)) ∧ 0 ≤ c.size ∧ c.size ≤ 1048576
/-- The disk behind some changes to two files. -/
structure KI (D : DS) (i : Nat) : Prop where
  uniq : Uniq D.fs
  nodup : (D.fs.map (·.born)).Nodup
  born : ∀ f ∈ D.fs, f.born < D.clock
  two : ∀ f ∈ D.fs, f.name = nmA ∨ f.name = nmB
  lens : ∀ f ∈ D.fs, f.seen.length ≤ 6100 ∧ f.kept.length ≤ 6100
  chw : ∀ c ∈ D.chs, ChW c
  has : ∀ c ∈ D.chs, ∃ f, look D.fs c.name = some f
  few : D.chs.length ≤ 40 * i
  room : D.room = 200000
  fuse : D.fuse = 0
  steps : 0 ≤ D.steps ∧ D.steps ≤ i
  starts : D.starts = 0
  down : D.down = false
  full : ∀ nm, keepF nm (keptOf D nm) D.chs = seenOf D nm
theorem keepF_others {nm : ByteArray} {l : List UInt8} : ∀ {cs : List Ch}, (∀ c ∈ cs, isN nm c = false) → keepF nm l cs = l
  | [], _ => rfl
  | c :: r, h => by
    show keepF nm (if isN nm c then takeL l c 1 else l) r = l
    rw [h c (by simp), if_neg (by decide)]
    exact keepF_others (fun d hd => h d (by simp [hd]))
theorem isN_of {nm : ByteArray} {c : Ch} (h : c.name ≠ nm) : isN nm c = false := by
  cases hb : isN nm c with
  | false => rfl
  | true => exact absurd (isN_eq hb) h
theorem KI.few2 {D : DS} {i : Nat} (h : KI D i) : total D ≤ 12200 := by
  have hd : ∀ x ∈ D.fs, ∀ y ∈ D.fs, x.name = y.name → x = y := fun x hx y hy e => by
    have h1 := h.uniq x hx
    rw [e, h.uniq y hy] at h1
    exact (Option.some.inj h1).symm
  unfold total tot
  have h1 := h.nodup
  have h2 := h.two
  have h3 := h.lens
  generalize D.fs = fs at hd h1 h2 h3
  match fs, hd, h1, h2, h3 with
  | [], _, _, _, _ => simp
  | [x], _, _, _, h3 => have := (h3 x (by simp)).1; simp; omega
  | [x, y], _, _, _, h3 => have := (h3 x (by simp)).1; have := (h3 y (by simp)).1; simp; omega
  | x :: y :: z :: r, hd, h1, h2, _ =>
    exfalso
    have nxy : x ≠ y := fun e => by rw [e] at h1; simp at h1
    have nxz : x ≠ z := fun e => by rw [e] at h1; simp at h1
    have nyz : y ≠ z := fun e => by rw [e] at h1; simp at h1
    rcases h2 x (by simp) with ex | ex <;> rcases h2 y (by simp) with ey | ey <;> rcases h2 z (by simp) with ez | ez
    all_goals first
      | exact nxy (hd x (by simp) y (by simp) (ex.trans ey.symm))
      | exact nxz (hd x (by simp) z (by simp) (ex.trans ez.symm))
      | exact nyz (hd y (by simp) z (by simp) (ey.trans ez.symm))
theorem KI.fine {D : DS} {i : Nat} (h : KI D i) (hi : i ≤ 100) : Fine D := by
  have h1 := h.few2
  have h2 := h.few
  exact ⟨fun f hf => by have := (h.lens f hf).1; omega, by omega, by omega, by rw [h.fuse]; decide, by rw [h.fuse]; decide, h.steps.1, by have := h.steps.2; omega⟩
theorem KI.sane {D : DS} {i : Nat} (h : KI D i) (hi : i ≤ 100) : Sane D := by
  have h2 := h.few
  exact ⟨fun c hc => (h.chw c hc).1, fun c hc => (h.chw c hc).2, fun f hf => by have := (h.lens f hf).2; omega, h.has, by omega⟩
theorem KI.flen {D : DS} {i : Nat} (h : KI D i) (nm : ByteArray) : Go.Proofs.Ytefcconbpomedaa.flen D nm ≤ 6100 := by
  unfold Go.Proofs.Ytefcconbpomedaa.flen
  cases hl : look D.fs nm with
  | none => simp
  | some f => simpa using (h.lens f (look_some hl).1).1
/-- Where a name leads, behind a change. -/
theorem look_changed {D D1 : DS} (hn : (D.fs.map (·.born)).Nodup) (hb : ∀ f ∈ D.fs, f.born < D.clock) {nm : ByteArray} {f1 : FL} (hE : Entered D nm f1 D1) (g : FL → FL) (hg : ∀ f, (g f).name = f.name) (nm' : ByteArray) :
    look (upd D1.fs f1.born g) nm' = if nm' = nm then some (g f1) else look D.fs nm' := by
  have hu : ∀ fs : List FL, look (upd fs f1.born g) nm' = (look fs nm').map (fun f => if f.born = f1.born then g f else f) := fun fs => look_map _ (fun f => by split; exact hg f; rfl) nm'
  rcases hE with ⟨hl, rfl⟩ | ⟨hl, eb, rfl, rfl⟩
  · rw [hu]
    obtain ⟨h1, h2⟩ := look_some hl
    by_cases e : nm' = nm
    · rw [if_pos e, e, hl, Option.map_some, if_pos rfl]
    · rw [if_neg e]
      cases hl' : look D1.fs nm' with
      | none => rfl
      | some x =>
        obtain ⟨h3, h4⟩ := look_some hl'
        rw [Option.map_some, if_neg]
        intro eb
        have : x = f1 := FL.inj hn h3 h1 eb
        exact e (by rw [h4, h2, this])
  · rw [hu]
    have hs : look (D.fs ++ [FL.fresh nm eb D.clock]) nm' = if nm' = nm then some (FL.fresh nm eb D.clock) else look D.fs nm' := by
      by_cases e : nm' = nm
      · rw [if_pos e, e]
        exact look_snoc _ _ _ hl (bytes_beq nm)
      · rw [if_neg e]
        unfold look
        rw [List.find?_append]
        have : (nm' == (FL.fresh nm eb D.clock).name) = false := name_ne e
        simp [this]
    rw [hs]
    by_cases e : nm' = nm
    · rw [if_pos e, if_pos e, Option.map_some, if_pos rfl]
    · rw [if_neg e, if_neg e]
      cases hl' : look D.fs nm' with
      | none => rfl
      | some x =>
        rw [Option.map_some, if_neg]
        have := hb x (look_some hl').1
        show ¬ x.born = D.clock
        omega
theorem entered_seen {D D1 : DS} {nm : ByteArray} {f1 : FL} (hE : Entered D nm f1 D1) : f1.seen = seenOf D nm ∧ f1.kept = keptOf D nm ∧ f1.name = nm := by
  unfold seenOf keptOf
  rcases hE with ⟨hl, rfl⟩ | ⟨hl, eb, rfl, rfl⟩
  · rw [hl]; exact ⟨rfl, rfl, (look_some hl).2.symm⟩
  · rw [hl]; exact ⟨rfl, rfl, rfl⟩
/-- A file is changed. -/
theorem KI.change {D D1 : DS} {i : Nat} (h : KI D i) {nm : ByteArray} (hnm : nm = nmA ∨ nm = nmB) {f1 : FL} (hE : Entered D nm f1 D1) (v cv : Value) (l' : List UInt8) (cs : List Ch) (hl : l'.length ≤ 6100) (hcs : ∀ c ∈ cs, c.name = nm ∧ ChW c) (hcl : cs.length ≤ 40) (hk : keepF nm f1.seen cs = l') :
    KI (stepped { D1 with fs := upd D1.fs f1.born fun x => { x with sv := v, seen := l' }, cv := cv, chs := D1.chs ++ cs }) (i + 1) ∧
    (∀ nm', seenOf (stepped { D1 with fs := upd D1.fs f1.born fun x => { x with sv := v, seen := l' }, cv := cv, chs := D1.chs ++ cs }) nm' = if nm' = nm then l' else seenOf D nm') ∧
    (∀ nm', keptOf (stepped { D1 with fs := upd D1.fs f1.born fun x => { x with sv := v, seen := l' }, cv := cv, chs := D1.chs ++ cs }) nm' = keptOf D nm') := by
  have hlk := look_changed h.nodup h.born hE (fun x => { x with sv := v, seen := l' }) (fun _ => rfl)
  obtain ⟨e1, e2, e3⟩ := entered_seen hE
  have hS : ∀ nm', seenOf (stepped { D1 with fs := upd D1.fs f1.born fun x => { x with sv := v, seen := l' }, cv := cv, chs := D1.chs ++ cs }) nm' = if nm' = nm then l' else seenOf D nm' := fun nm' => by
    show ((look (upd D1.fs f1.born fun x => { x with sv := v, seen := l' }) nm').map fun f => f.seen).getD [] = _
    rw [hlk nm']
    by_cases e : nm' = nm
    · rw [if_pos e, if_pos e]; rfl
    · rw [if_neg e, if_neg e]; rfl
  have hK : ∀ nm', keptOf (stepped { D1 with fs := upd D1.fs f1.born fun x => { x with sv := v, seen := l' }, cv := cv, chs := D1.chs ++ cs }) nm' = keptOf D nm' := fun nm' => by
    show ((look (upd D1.fs f1.born fun x => { x with sv := v, seen := l' }) nm').map fun f => f.kept).getD [] = _
    rw [hlk nm']
    by_cases e : nm' = nm
    · rw [if_pos e, e, ← e2]; rfl
    · rw [if_neg e]; rfl
  have hc1 : D1.chs = D.chs := (Entered.facts hE).2.2.2.2.2
  have hmem : ∀ f ∈ D1.fs, (f ∈ D.fs ∨ f = f1) ∧ f.born < D1.clock ∧ (f.name = nmA ∨ f.name = nmB) ∧ f.seen.length ≤ 6100 ∧ f.kept.length ≤ 6100 := fun f hf => by
    rcases hE with ⟨hl, rfl⟩ | ⟨hl, eb, rfl, rfl⟩
    · exact ⟨.inl hf, h.born f hf, h.two f hf, h.lens f hf⟩
    · rcases List.mem_append.1 hf with hf | hf
      · exact ⟨.inl hf, Nat.lt_succ_of_lt (h.born f hf), h.two f hf, h.lens f hf⟩
      · obtain rfl := List.mem_singleton.1 hf
        exact ⟨.inr rfl, Nat.lt_succ_self _, hnm, by simp [FL.fresh], by simp [FL.fresh]⟩
  have hf1 : f1 ∈ D1.fs := by
    rcases hE with ⟨hl, rfl⟩ | ⟨hl, eb, rfl, rfl⟩
    · exact (look_some hl).1
    · simp
  have hU1 : Uniq D1.fs := by
    rcases hE with ⟨hl, rfl⟩ | ⟨hl, eb, rfl, rfl⟩
    · exact h.uniq
    · intro f' hf'
      rcases List.mem_append.1 hf' with hf' | hf'
      · have := h.uniq f' hf'
        unfold look at this ⊢
        rw [List.find?_append, this]
        rfl
      · obtain rfl := List.mem_singleton.1 hf'
        exact look_snoc _ _ _ hl (bytes_beq nm)
  have hn1 : (D1.fs.map (·.born)).Nodup := by
    rcases hE with ⟨hl, rfl⟩ | ⟨hl, eb, rfl, rfl⟩
    · exact h.nodup
    · rw [List.map_append, List.nodup_append]
      refine ⟨h.nodup, by simp, fun a ha c hc => ?_⟩
      obtain ⟨f, hf, rfl⟩ := List.mem_map.1 ha
      have := h.born f hf
      simp [FL.fresh] at hc
      omega
  obtain ⟨q1, q2, q3, q4, q5, q6⟩ := Entered.facts hE
  refine ⟨⟨hU1.upd f1.born (fun x => { x with sv := v, seen := l' }) (fun _ => rfl), ?_, fun f hf => ?_, fun f hf => ?_, fun f hf => ?_, fun c hc => ?_, fun c hc => ?_, ?_, ?_, ?_, ?_, ?_, ?_, fun nm' => ?_⟩, hS, hK⟩
  · show ((upd D1.fs f1.born fun x => { x with sv := v, seen := l' }).map (·.born)).Nodup
    rw [born_upd (g := fun x => { x with sv := v, seen := l' }) (fun _ => rfl)]
    exact hn1
  · obtain ⟨x, hx, ⟨e, rfl⟩ | ⟨e, rfl⟩⟩ := mem_upd hf
    · exact (hmem x hx).2.1
    · exact (hmem f hx).2.1
  · obtain ⟨x, hx, ⟨e, rfl⟩ | ⟨e, rfl⟩⟩ := mem_upd hf
    · exact (hmem x hx).2.2.1
    · exact (hmem f hx).2.2.1
  · obtain ⟨x, hx, ⟨e, rfl⟩ | ⟨e, rfl⟩⟩ := mem_upd hf
    · exact ⟨hl, (hmem x hx).2.2.2.2⟩
    · exact (hmem f hx).2.2.2
  · rcases List.mem_append.1 hc with hc | hc
    · exact h.chw c (hc1 ▸ hc)
    · exact (hcs c hc).2
  · show ∃ f, look (upd D1.fs f1.born fun x => { x with sv := v, seen := l' }) c.name = some f
    rw [hlk]
    by_cases e : c.name = nm
    · rw [if_pos e]; exact ⟨_, rfl⟩
    · rw [if_neg e]
      rcases List.mem_append.1 hc with hc | hc
      · exact h.has c (hc1 ▸ hc)
      · exact absurd (hcs c hc).1 e
  · show (D1.chs ++ cs).length ≤ _
    have := h.few
    rw [List.length_append, hc1]; omega
  · show D1.room = _
    rw [q4]; exact h.room
  · show (if D1.fuse = 0 then 0 else D1.fuse - 1) = _
    rw [q1, h.fuse]; rfl
  · show 0 ≤ D1.steps + 1 ∧ D1.steps + 1 ≤ ((i + 1 : Nat) : Int)
    have := h.steps
    rw [q2]; omega
  · show D1.starts = 0
    rw [q5]; exact h.starts
  · show (D1.down || D1.fuse == 1) = false
    rw [q3, q1, h.down, h.fuse]; rfl
  · rw [hS, hK]
    show keepF nm' (keptOf D nm') (D1.chs ++ cs) = _
    rw [keepF_append, hc1, h.full]
    by_cases e : nm' = nm
    · rw [if_pos e, e, ← e1]; exact hk
    · rw [if_neg e]
      exact keepF_others (fun c hc => isN_of (fun e' => e (by rw [← e', (hcs c hc).1])))
end Go.Proofs.Ytefcconbpomedaa
