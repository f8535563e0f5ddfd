/- A disk with the two files db and wal, between two steps. -/
import Derived.Test.YteocmhbllckpjaaGreatO3
import Derived.Test.YteocmhbllckpjaaGreatW6
import Derived.Test.YteocmhbllckpjaaGreatV11
namespace Go.Proofs.YteocmhbllckpjaaGreat
open Go.ChangeShapes Go.WideShapes Go.ChangeAt Go.RowKit
set_option linter.unusedVariables false

abbrev nmD : ByteArray := ⟨#[100, 98]⟩
abbrev nmJ : ByteArray := ⟨#[119, 97, 108]⟩
def keptOf (D : DS) (nm : ByteArray) : List UInt8 := ((look D.fs nm).map fun f => f.kept).getD []
theorem name_ne {a b : ByteArray} (h : a ≠ b) : (a == b) = false := by
  cases hb : a == b with
  | false => rfl
  | true => exact absurd (name_eq hb) h
theorem look_map {fs : List FL} (h : FL → FL) (hh : ∀ f, (h f).name = f.name) (nm : ByteArray) : look (fs.map h) nm = (look fs nm).map h := by
  unfold look
  induction fs with
  | nil => rfl
  | cons f r ih =>
    rw [List.map_cons, List.find?_cons, List.find?_cons, hh f]
    cases nm == f.name
    · exact ih
    · rfl
/-- A change is well formed. -/
def ChW (c : Ch) : Prop := (c.sector = -1 ∨ (0 ≤ c.sector ∧ c.sector ≤ 16384)) ∧ 0 ≤ c.size ∧ c.size ≤ 60000
/-- The disk behind some changes to two files. -/
structure JX (r : Int) (D : DS) (i : Nat) : Prop where
  uniq : Uniq D.fs
  nodup : (D.fs.map (·.born)).Nodup
  born : ∀ f ∈ D.fs, f.born < D.clock
  two : ∀ f ∈ D.fs, f.name = nmD ∨ f.name = nmJ
  lens : ∀ f ∈ D.fs, f.seen.length ≤ 60000 ∧ f.kept.length ≤ 60000
  chw : ∀ c ∈ D.chs, ChW c
  has : ∀ c ∈ D.chs, ∃ f, look D.fs c.name = some f
  few : D.chs.length ≤ 40 * i
  room : D.room = r
  fuse : 0 ≤ D.fuse ∧ D.fuse ≤ 9223372036854775807
  steps : 0 ≤ D.steps ∧ D.steps ≤ i
  starts : 0 ≤ D.starts ∧ D.starts ≤ i
  full : ∀ nm, keepF nm (keptOf D nm) D.chs = seenOf D nm
/-- The same of a disk that is up. -/
structure JI (r : Int) (D : DS) (i : Nat) : Prop extends JX r D i where
  down : D.down = false
theorem keepF_others {nm : ByteArray} {l : List UInt8} : ∀ {cs : List Ch}, (∀ c ∈ cs, isN nm c = false) → keepF nm l cs = l
  | [], _ => rfl
  | c :: r, h => by
    show keepF nm (if isN nm c then takeL l c 1 else l) r = l
    rw [h c (by simp), if_neg (by decide)]
    exact keepF_others (fun d hd => h d (by simp [hd]))
theorem isN_of {nm : ByteArray} {c : Ch} (h : c.name ≠ nm) : isN nm c = false := by
  cases hb : isN nm c with
  | false => rfl
  | true => exact absurd (isN_eq hb) h
theorem JI.few2 {r : Int} {D : DS} {i : Nat} (h : JI r D i) : total D ≤ 120000 := by
  have hd : ∀ x ∈ D.fs, ∀ y ∈ D.fs, x.name = y.name → x = y := fun x hx y hy e => by
    have h1 := h.uniq x hx
    rw [e, h.uniq y hy] at h1
    exact (Option.some.inj h1).symm
  unfold total tot
  have h1 := h.nodup
  have h2 := h.two
  have h3 := h.lens
  generalize D.fs = fs at hd h1 h2 h3
  match fs, hd, h1, h2, h3 with
  | [], _, _, _, _ => simp
  | [x], _, _, _, h3 => have := (h3 x (by simp)).1; simp; omega
  | [x, y], _, _, _, h3 => have := (h3 x (by simp)).1; have := (h3 y (by simp)).1; simp; omega
  | x :: y :: z :: r, hd, h1, h2, _ =>
    exfalso
    have nxy : x ≠ y := fun e => by rw [e] at h1; simp at h1
    have nxz : x ≠ z := fun e => by rw [e] at h1; simp at h1
    have nyz : y ≠ z := fun e => by rw [e] at h1; simp at h1
    rcases h2 x (by simp) with ex | ex <;> rcases h2 y (by simp) with ey | ey <;> rcases h2 z (by simp) with ez | ez
    all_goals first
      | exact nxy (hd x (by simp) y (by simp) (ex.trans ey.symm))
      | exact nxz (hd x (by simp) z (by simp) (ex.trans ez.symm))
      | exact nyz (hd y (by simp) z (by simp) (ey.trans ez.symm))
theorem JI.fine {r : Int} {D : DS} {i : Nat} (h : JI r D i) (hi : i ≤ 20000) : Fine D := by
  have h1 := h.few2
  have h2 := h.few
  exact ⟨fun f hf => by have := (h.lens f hf).1; omega, by omega, by omega, h.fuse.1, h.fuse.2, h.steps.1, by have := h.steps.2; omega⟩
theorem JX.sane {r : Int} {D : DS} {i : Nat} (h : JX r D i) (hi : i ≤ 20000) : Sane D := by
  have h2 := h.few
  exact ⟨fun c hc => (h.chw c hc).1, fun c hc => by have := (h.chw c hc).2; omega, fun f hf => by have := (h.lens f hf).2; omega, h.has, by omega⟩
theorem JI.sane {r : Int} {D : DS} {i : Nat} (h : JI r D i) (hi : i ≤ 20000) : Sane D := h.toJX.sane hi
theorem JI.flen {r : Int} {D : DS} {i : Nat} (h : JI r D i) (nm : ByteArray) : Go.Proofs.YteocmhbllckpjaaGreat.flen D nm ≤ 60000 := by
  unfold Go.Proofs.YteocmhbllckpjaaGreat.flen
  cases hl : look D.fs nm with
  | none => simp
  | some f => simpa using (h.lens f (look_some hl).1).1
/-- Where a name leads, behind a change. -/
theorem look_changed {D D1 : DS} (hn : (D.fs.map (·.born)).Nodup) (hb : ∀ f ∈ D.fs, f.born < D.clock) {nm : ByteArray} {f1 : FL} (hE : Entered D nm f1 D1) (g : FL → FL) (hg : ∀ f, (g f).name = f.name) (nm' : ByteArray) :
    look (upd D1.fs f1.born g) nm' = if nm' = nm then some (g f1) else look D.fs nm' := by
  have hu : ∀ fs : List FL, look (upd fs f1.born g) nm' = (look fs nm').map (fun f => if f.born = f1.born then g f else f) := fun fs => look_map _ (fun f => by split; exact hg f; rfl) nm'
  rcases hE with ⟨hl, rfl⟩ | ⟨hl, eb, rfl, rfl⟩
  · rw [hu]
    obtain ⟨h1, h2⟩ := look_some hl
    by_cases e : nm' = nm
    · rw [if_pos e, e, hl, Option.map_some, if_pos rfl]
    · rw [if_neg e]
      cases hl' : look D1.fs nm' with
      | none => rfl
      | some x =>
        obtain ⟨h3, h4⟩ := look_some hl'
        rw [Option.map_some, if_neg]
        intro eb
        have : x = f1 := FL.inj hn h3 h1 eb
        exact e (by rw [h4, h2, this])
  · rw [hu]
    have hs : look (D.fs ++ [FL.fresh nm eb D.clock]) nm' = if nm' = nm then some (FL.fresh nm eb D.clock) else look D.fs nm' := by
      by_cases e : nm' = nm
      · rw [if_pos e, e]
        exact look_snoc _ _ _ hl (bytes_beq nm)
      · rw [if_neg e]
        unfold look
        rw [List.find?_append]
        have : (nm' == (FL.fresh nm eb D.clock).name) = false := name_ne e
        simp [this]
    rw [hs]
    by_cases e : nm' = nm
    · rw [if_pos e, if_pos e, Option.map_some, if_pos rfl]
    · rw [if_neg e, if_neg e]
      cases hl' : look D.fs nm' with
      | none => rfl
      | some x =>
        rw [Option.map_some, if_neg]
        have := hb x (look_some hl').1
        show ¬ x.born = D.clock
        omega
theorem entered_seen {D D1 : DS} {nm : ByteArray} {f1 : FL} (hE : Entered D nm f1 D1) : f1.seen = seenOf D nm ∧ f1.kept = keptOf D nm ∧ f1.name = nm := by
  unfold seenOf keptOf
  rcases hE with ⟨hl, rfl⟩ | ⟨hl, eb, rfl, rfl⟩
  · rw [hl]; exact ⟨rfl, rfl, (look_some hl).2.symm⟩
  · rw [hl]; exact ⟨rfl, rfl, rfl⟩
/-- A file is changed. -/
theorem JX.change {r : Int} {D D1 : DS} {i : Nat} (h : JX r D i) {nm : ByteArray} (hnm : nm = nmD ∨ nm = nmJ) {f1 : FL} (hE : Entered D nm f1 D1) (v cv : Value) (l' : List UInt8) (cs : List Ch) (hl : l'.length ≤ 60000) (hcs : ∀ c ∈ cs, c.name = nm ∧ ChW c) (hcl : cs.length ≤ 40) (hk : keepF nm f1.seen cs = l') :
    JX r (stepped { D1 with fs := upd D1.fs f1.born fun x => { x with sv := v, seen := l' }, cv := cv, chs := D1.chs ++ cs }) (i + 1) ∧
    (∀ nm', seenOf (stepped { D1 with fs := upd D1.fs f1.born fun x => { x with sv := v, seen := l' }, cv := cv, chs := D1.chs ++ cs }) nm' = if nm' = nm then l' else seenOf D nm') ∧
    (∀ nm', keptOf (stepped { D1 with fs := upd D1.fs f1.born fun x => { x with sv := v, seen := l' }, cv := cv, chs := D1.chs ++ cs }) nm' = keptOf D nm') := by
  have hlk := look_changed h.nodup h.born hE (fun x => { x with sv := v, seen := l' }) (fun _ => rfl)
  obtain ⟨e1, e2, e3⟩ := entered_seen hE
  have hS : ∀ nm', seenOf (stepped { D1 with fs := upd D1.fs f1.born fun x => { x with sv := v, seen := l' }, cv := cv, chs := D1.chs ++ cs }) nm' = if nm' = nm then l' else seenOf D nm' := fun nm' => by
    show ((look (upd D1.fs f1.born fun x => { x with sv := v, seen := l' }) nm').map fun f => f.seen).getD [] = _
    rw [hlk nm']
    by_cases e : nm' = nm
    · rw [if_pos e, if_pos e]; rfl
    · rw [if_neg e, if_neg e]; rfl
  have hK : ∀ nm', keptOf (stepped { D1 with fs := upd D1.fs f1.born fun x => { x with sv := v, seen := l' }, cv := cv, chs := D1.chs ++ cs }) nm' = keptOf D nm' := fun nm' => by
    show ((look (upd D1.fs f1.born fun x => { x with sv := v, seen := l' }) nm').map fun f => f.kept).getD [] = _
    rw [hlk nm']
    by_cases e : nm' = nm
    · rw [if_pos e, e, ← e2]; rfl
    · rw [if_neg e]; rfl
  have hc1 : D1.chs = D.chs := (Entered.facts hE).2.2.2.2.2
  have hmem : ∀ f ∈ D1.fs, (f ∈ D.fs ∨ f = f1) ∧ f.born < D1.clock ∧ (f.name = nmD ∨ f.name = nmJ) ∧ f.seen.length ≤ 60000 ∧ f.kept.length ≤ 60000 := fun f hf => by
    rcases hE with ⟨hl, rfl⟩ | ⟨hl, eb, rfl, rfl⟩
    · exact ⟨.inl hf, h.born f hf, h.two f hf, h.lens f hf⟩
    · rcases List.mem_append.1 hf with hf | hf
      · exact ⟨.inl hf, Nat.lt_succ_of_lt (h.born f hf), h.two f hf, h.lens f hf⟩
      · obtain rfl := List.mem_singleton.1 hf
        exact ⟨.inr rfl, Nat.lt_succ_self _, hnm, by simp [FL.fresh], by simp [FL.fresh]⟩
  have hf1 : f1 ∈ D1.fs := by
    rcases hE with ⟨hl, rfl⟩ | ⟨hl, eb, rfl, rfl⟩
    · exact (look_some hl).1
    · simp
  have hU1 : Uniq D1.fs := by
    rcases hE with ⟨hl, rfl⟩ | ⟨hl, eb, rfl, rfl⟩
    · exact h.uniq
    · intro f' hf'
      rcases List.mem_append.1 hf' with hf' | hf'
      · have := h.uniq f' hf'
        unfold look at this ⊢
        rw [List.find?_append, this]
        rfl
      · obtain rfl := List.mem_singleton.1 hf'
        exact look_snoc _ _ _ hl (bytes_beq nm)
  have hn1 : (D1.fs.map (·.born)).Nodup := by
    rcases hE with ⟨hl, rfl⟩ | ⟨hl, eb, rfl, rfl⟩
    · exact h.nodup
    · rw [List.map_append, List.nodup_append]
      refine ⟨h.nodup, by simp, fun a ha c hc => ?_⟩
      obtain ⟨f, hf, rfl⟩ := List.mem_map.1 ha
      have := h.born f hf
      simp [FL.fresh] at hc
      omega
  obtain ⟨q1, q2, q3, q4, q5, q6⟩ := Entered.facts hE
  refine ⟨⟨hU1.upd f1.born (fun x => { x with sv := v, seen := l' }) (fun _ => rfl), ?_, fun f hf => ?_, fun f hf => ?_, fun f hf => ?_, fun c hc => ?_, fun c hc => ?_, ?_, ?_, ?_, ?_, ?_, fun nm' => ?_⟩, hS, hK⟩
  · show ((upd D1.fs f1.born fun x => { x with sv := v, seen := l' }).map (·.born)).Nodup
    rw [born_upd (g := fun x => { x with sv := v, seen := l' }) (fun _ => rfl)]
    exact hn1
  · obtain ⟨x, hx, ⟨e, rfl⟩ | ⟨e, rfl⟩⟩ := mem_upd hf
    · exact (hmem x hx).2.1
    · exact (hmem f hx).2.1
  · obtain ⟨x, hx, ⟨e, rfl⟩ | ⟨e, rfl⟩⟩ := mem_upd hf
    · exact (hmem x hx).2.2.1
    · exact (hmem f hx).2.2.1
  · obtain ⟨x, hx, ⟨e, rfl⟩ | ⟨e, rfl⟩⟩ := mem_upd hf
    · exact ⟨hl, (hmem x hx).2.2.2.2⟩
    · exact (hmem f hx).2.2.2
  · rcases List.mem_append.1 hc with hc | hc
    · exact h.chw c (hc1 ▸ hc)
    · exact (hcs c hc).2
  · show ∃ f, look (upd D1.fs f1.born fun x => { x with sv := v, seen := l' }) c.name = some f
    rw [hlk]
    by_cases e : c.name = nm
    · rw [if_pos e]; exact ⟨_, rfl⟩
    · rw [if_neg e]
      rcases List.mem_append.1 hc with hc | hc
      · exact h.has c (hc1 ▸ hc)
      · exact absurd (hcs c hc).1 e
  · show (D1.chs ++ cs).length ≤ _
    have := h.few
    rw [List.length_append, hc1]; omega
  · show D1.room = _
    rw [q4]; exact h.room
  · show 0 ≤ (if D1.fuse = 0 then 0 else D1.fuse - 1) ∧ (if D1.fuse = 0 then 0 else D1.fuse - 1) ≤ 9223372036854775807
    have := h.fuse
    rw [q1]
    split <;> omega
  · show 0 ≤ D1.steps + 1 ∧ D1.steps + 1 ≤ ((i + 1 : Nat) : Int)
    have := h.steps
    rw [q2]; omega
  · show 0 ≤ D1.starts ∧ D1.starts ≤ ((i + 1 : Nat) : Int)
    rw [q5]
    have := h.starts
    omega
  · rw [hS, hK]
    show keepF nm' (keptOf D nm') (D1.chs ++ cs) = _
    rw [keepF_append, hc1, h.full]
    by_cases e : nm' = nm
    · rw [if_pos e, e, ← e1]; exact hk
    · rw [if_neg e]
      exact keepF_others (fun c hc => isN_of (fun e' => e (by rw [← e', (hcs c hc).1])))
theorem wchs_okN {nm : ByteArray} {l d : List UInt8} {at_ : Nat} (hat : at_ + d.length ≤ 60000) (c : Ch) (hc : c ∈ wchs nm l at_ d) : c.name = nm ∧ ChW c := by
  unfold wchs at hc
  rcases List.mem_append.1 hc with h | h
  · unfold wsize at h
    split at h
    · have e : c = Ch.mk nm (-1) ((at_ + d.length : Nat) : Int) (List.replicate 64 0) := by simpa using h
      rw [e]
      exact ⟨rfl, .inl rfl, by show (0 : Int) ≤ ((at_ + d.length : Nat) : Int); omega, by show ((at_ + d.length : Nat) : Int) ≤ 60000; omega⟩
    · cases h
  · unfold secs at h
    obtain ⟨k, hk, rfl⟩ := List.mem_map.1 h
    rw [List.mem_range'_1] at hk
    exact ⟨rfl, .inr ⟨by show (0 : Int) ≤ (k : Int); omega, by show (k : Int) ≤ 16384; omega⟩, by show (0 : Int) ≤ 0; omega, by show (0 : Int) ≤ 60000; omega⟩
theorem wchs_lenN {nm : ByteArray} {l d : List UInt8} {at_ : Nat} (hd : d.length ≤ 2000) : (wchs nm l at_ d).length ≤ 40 := by
  unfold wchs
  rw [List.length_append, length_secs]
  have : (wsize nm l (at_ + d.length)).length ≤ 1 := by unfold wsize; split <;> simp
  omega
theorem fuse_step {D : DS} (h : 0 ≤ D.fuse ∧ D.fuse ≤ 9223372036854775807) : 0 ≤ (Go.Proofs.YteocmhbllckpjaaGreat.stepped D).fuse ∧ (Go.Proofs.YteocmhbllckpjaaGreat.stepped D).fuse ≤ 9223372036854775807 := by
  show 0 ≤ (if D.fuse = 0 then 0 else D.fuse - 1) ∧ (if D.fuse = 0 then 0 else D.fuse - 1) ≤ 9223372036854775807
  split <;> omega
theorem JX.stepped {r : Int} {D : DS} {i : Nat} (h : JX r D i) : JX r (stepped D) (i + 1) :=
  { h with
    few := by have := h.few; show D.chs.length ≤ _; omega
    fuse := fuse_step h.fuse
    steps := by have := h.steps; show 0 ≤ D.steps + 1 ∧ D.steps + 1 ≤ ((i + 1 : Nat) : Int); omega
    starts := by have := h.starts; show 0 ≤ D.starts ∧ D.starts ≤ ((i + 1 : Nat) : Int); omega
    full := h.full }
theorem down_step {D : DS} (h : D.down = false) (hf : D.fuse ≠ 1) : (Go.Proofs.YteocmhbllckpjaaGreat.stepped D).down = false := by
  show (D.down || D.fuse == 1) = false
  rw [h]
  simpa using hf
theorem look_without {fs : List FL} (hU : Uniq fs) (hn : (fs.map (·.born)).Nodup) {nm : ByteArray} {f : FL} (hl : look fs nm = some f) (nm' : ByteArray) : look (fs.filter (fun x => x.born != f.born)) nm' = if nm' = nm then none else look fs nm' := by
  obtain ⟨hf, hnm⟩ := look_some hl
  by_cases e : nm' = nm
  · rw [if_pos e]
    cases hg : look (fs.filter (fun x => x.born != f.born)) nm' with
    | none => rfl
    | some g =>
      exfalso
      obtain ⟨h1, h2⟩ := look_some hg
      obtain ⟨h3, h4⟩ := List.mem_filter.1 h1
      have := hU g h3
      rw [← h2, e, hl] at this
      cases this
      simp at h4
  · rw [if_neg e]
    cases hx : look fs nm' with
    | none =>
      cases hg : look (fs.filter (fun x => x.born != f.born)) nm' with
      | none => rfl
      | some g =>
        exfalso
        obtain ⟨h1, h2⟩ := look_some hg
        obtain ⟨y, hy⟩ := look_mem (List.mem_filter.1 h1).1
        rw [← h2, hx] at hy
        cases hy
    | some x =>
      obtain ⟨h1, h2⟩ := look_some hx
      have hb : x.born ≠ f.born := fun eb => by
        have : x = f := FL.inj hn h1 hf eb
        exact e (by rw [h2, hnm, this])
      have hm : x ∈ fs.filter (fun x => x.born != f.born) := List.mem_filter.2 ⟨h1, by simpa using hb⟩
      have := (hU.sub (fun y hy => (List.mem_filter.1 hy).1)) x hm
      rw [h2]; exact this
/-- A file without bytes is forgotten. -/
theorem forget_view {D : DS} (hU : Uniq D.fs) (hn : (D.fs.map (·.born)).Nodup) (nm : ByteArray) (hk : keptOf D nm = seenOf D nm) :
    (∀ nm', seenOf (forgetD D nm) nm' = seenOf D nm') ∧ (∀ nm', keptOf (forgetD D nm) nm' = keptOf D nm') ∧ (∀ f ∈ (forgetD D nm).fs, f ∈ D.fs) ∧ ((forgetD D nm).fs.map (·.born)).Nodup ∧ (∀ nm', nm' ≠ nm → look (forgetD D nm).fs nm' = look D.fs nm') ∧
    (forgetD D nm).chs = D.chs ∧ (forgetD D nm).clock = D.clock ∧ (forgetD D nm).room = D.room ∧ (forgetD D nm).fuse = D.fuse ∧ (forgetD D nm).steps = D.steps ∧ (forgetD D nm).starts = D.starts ∧ (forgetD D nm).down = D.down := by
  unfold forgetD
  by_cases h0 : flen D nm = 0
  · rw [if_pos h0]
    cases hl : look D.fs nm with
    | none => exact ⟨fun _ => rfl, fun _ => rfl, fun _ h => h, hn, fun _ _ => rfl, rfl, rfl, rfl, rfl, rfl, rfl, rfl⟩
    | some f =>
      have hlw := look_without hU hn hl
      have hs0 : seenOf D nm = [] := by
        unfold flen at h0
        unfold seenOf
        rw [hl] at h0 ⊢
        exact List.length_eq_zero_iff.1 (by simpa using h0)
      refine ⟨fun nm' => ?_, fun nm' => ?_, fun g hg => (List.mem_filter.1 hg).1, hn.sublist (List.Sublist.map _ List.filter_sublist), fun nm' e => ?_, rfl, rfl, rfl, rfl, rfl, rfl, rfl⟩
      · show ((look (D.fs.filter (fun x => x.born != f.born)) nm').map fun f => f.seen).getD [] = _
        rw [hlw]
        by_cases e : nm' = nm
        · rw [if_pos e, e, hs0]; rfl
        · rw [if_neg e]; rfl
      · show ((look (D.fs.filter (fun x => x.born != f.born)) nm').map fun f => f.kept).getD [] = _
        rw [hlw]
        by_cases e : nm' = nm
        · rw [if_pos e, e, hk, hs0]; rfl
        · rw [if_neg e]; rfl
      · show look (D.fs.filter (fun x => x.born != f.born)) nm' = _
        rw [hlw, if_neg e]
  · rw [if_neg h0]
    exact ⟨fun _ => rfl, fun _ => rfl, fun _ h => h, hn, fun _ _ => rfl, rfl, rfl, rfl, rfl, rfl, rfl, rfl⟩
theorem keepF_filter {nm nm' : ByteArray} (hne : nm' ≠ nm) : ∀ (cs : List Ch) (l : List UInt8), keepF nm' l (others nm cs) = keepF nm' l cs
  | [], _ => rfl
  | c :: r, l => by
    unfold others
    rw [List.filter_cons]
    cases hb : isN nm c with
    | true =>
      have hb' : isN nm' c = false := isN_of (fun e => hne (e.symm.trans (isN_eq hb)))
      show keepF nm' l (others nm r) = keepF nm' (if isN nm' c then takeL l c 1 else l) r
      rw [hb', keepF_filter hne r l]
      rfl
    | false =>
      show keepF nm' (if isN nm' c then takeL l c 1 else l) (others nm r) = keepF nm' (if isN nm' c then takeL l c 1 else l) r
      exact keepF_filter hne r _
theorem isN_name {nm : ByteArray} {c : Ch} (h : c.name = nm) : isN nm c = true := by unfold isN; rw [h]; simp
/-- A file was synced. -/
theorem JI.sync {r : Int} {D D' : DS} {i : Nat} (h : JI r D i) (hf1 : D.fuse ≠ 1) {nm : ByteArray} (hK : KeptD (Go.Proofs.YteocmhbllckpjaaGreat.stepped D) nm D') :
    JI r D' (i + 1) ∧ (∀ nm', seenOf D' nm' = seenOf D nm') ∧ (∀ nm', keptOf D' nm' = if nm' = nm then seenOf D nm else keptOf D nm') ∧ D'.chs = others nm D.chs ∧ D'.fuse = (Go.Proofs.YteocmhbllckpjaaGreat.stepped D).fuse := by
  have hS := h.toJX.stepped
  have core : ∀ D2 : DS, Uniq D2.fs → (D2.fs.map (·.born)).Nodup → (∀ f ∈ D2.fs, f.born < D2.clock ∧ (f.name = nmD ∨ f.name = nmJ) ∧ f.seen.length ≤ 60000 ∧ f.kept.length ≤ 60000) → (∀ nm', (∃ f, look D.fs nm' = some f) → ∃ f, look D2.fs nm' = some f) →
      (∀ nm', seenOf D2 nm' = seenOf D nm') → (∀ nm', keptOf D2 nm' = if nm' = nm then seenOf D nm else keptOf D nm') → D2.chs = others nm D.chs → D2.room = D.room → D2.fuse = (Go.Proofs.YteocmhbllckpjaaGreat.stepped D).fuse → D2.steps = D.steps + 1 → D2.starts = D.starts → D2.down = false →
      D' = forgetD D2 nm → JI r D' (i + 1) ∧ (∀ nm', seenOf D' nm' = seenOf D nm') ∧ (∀ nm', keptOf D' nm' = if nm' = nm then seenOf D nm else keptOf D nm') ∧ D'.chs = others nm D.chs ∧ D'.fuse = (Go.Proofs.YteocmhbllckpjaaGreat.stepped D).fuse := fun D2 u1 u2 u3 u4 u5 u6 u7 u8 u9 u10 u11 u12 e => by
    have hk : keptOf D2 nm = seenOf D2 nm := by rw [u6, u5, if_pos rfl]
    obtain ⟨v1, v2, v3, v4, v5, v6, v7, v8, v9, v10, v11, v12⟩ := forget_view u1 u2 nm hk
    have hno : ∀ c ∈ others nm D.chs, c.name ≠ nm := fun c hc e' => by
      have := (List.mem_filter.1 hc).2
      rw [isN_name e'] at this
      cases this
    subst e
    refine ⟨⟨⟨u1.sub v3, v4, fun f hf => by rw [v7]; exact (u3 f (v3 f hf)).1, fun f hf => (u3 f (v3 f hf)).2.1, fun f hf => (u3 f (v3 f hf)).2.2, fun c hc => ?_, fun c hc => ?_, ?_, ?_, ?_, ?_, ?_, fun nm' => ?_⟩, by rw [v12]; exact u12⟩, fun nm' => by rw [v1, u5], fun nm' => by rw [v2, u6], by rw [v6, u7], by rw [v9, u9]⟩
    · rw [v6, u7] at hc
      exact h.chw c (List.mem_filter.1 hc).1
    · rw [v6, u7] at hc
      rw [v5 c.name (hno c hc)]
      exact u4 _ (h.has c (List.mem_filter.1 hc).1)
    · rw [v6, u7]
      have h1 : (others nm D.chs).length ≤ D.chs.length := List.length_filter_le _ _
      have := h.few
      omega
    · rw [v8, u8]; exact h.room
    · rw [v9, u9]; exact hS.fuse
    · rw [v10, u10]
      have := h.steps
      omega
    · rw [v11, u11]
      have := h.starts
      omega
    · rw [v1, v2, v6, u5, u6, u7]
      by_cases e : nm' = nm
      · rw [if_pos e, e]
        exact keepF_others (fun c hc => isN_of (hno c hc))
      · rw [if_neg e, keepF_filter e, h.full]
  have hdo : (Go.Proofs.YteocmhbllckpjaaGreat.stepped D).down = false := down_step h.down hf1
  rcases hK with ⟨f, kv, cv, hl, rfl⟩ | ⟨hl, cv, rfl⟩
  · have hl' : look D.fs nm = some f := hl
    obtain ⟨hf, hnm⟩ := look_some hl'
    have hkf : keepF nm f.kept D.chs = f.seen := by
      have := h.full nm
      unfold keptOf seenOf at this
      rw [hl'] at this
      exact this
    have hsn : seenOf D nm = f.seen := by unfold seenOf; rw [hl']; rfl
    have hlk := look_changed h.nodup h.born (.inl ⟨hl', rfl⟩ : Entered D nm f D) (fun x => { x with kv := kv, kept := keepF nm f.kept D.chs }) (fun _ => rfl)
    refine core ({ takeD (Go.Proofs.YteocmhbllckpjaaGreat.stepped D) f kv (keepF nm f.kept (Go.Proofs.YteocmhbllckpjaaGreat.stepped D).chs) with cv := cv, chs := others nm (Go.Proofs.YteocmhbllckpjaaGreat.stepped D).chs }) (h.uniq.upd f.born (fun x => { x with kv := kv, kept := keepF nm f.kept D.chs }) (fun _ => rfl)) ?_ (fun g hg => ?_) (fun nm' hx => ?_) (fun nm' => ?_) (fun nm' => ?_) rfl rfl rfl rfl rfl hdo rfl
    · show ((upd D.fs f.born fun x => { x with kv := kv, kept := keepF nm f.kept D.chs }).map (·.born)).Nodup
      rw [born_upd (g := fun x => { x with kv := kv, kept := keepF nm f.kept D.chs }) (fun _ => rfl)]
      exact h.nodup
    · obtain ⟨x, hx, ⟨e, rfl⟩ | ⟨e, rfl⟩⟩ := mem_upd hg
      · refine ⟨h.born x hx, h.two x hx, (h.lens x hx).1, ?_⟩
        show (keepF nm f.kept D.chs).length ≤ 60000
        rw [hkf]; exact (h.lens f hf).1
      · exact ⟨h.born g hx, h.two g hx, h.lens g hx⟩
    · show ∃ f', look (upd D.fs f.born fun x => { x with kv := kv, kept := keepF nm f.kept D.chs }) nm' = some f'
      rw [hlk]
      split
      · exact ⟨_, rfl⟩
      · exact hx
    · show ((look (upd D.fs f.born fun x => { x with kv := kv, kept := keepF nm f.kept D.chs }) nm').map fun f => f.seen).getD [] = _
      rw [hlk]
      by_cases e : nm' = nm
      · rw [if_pos e, e, hsn]; rfl
      · rw [if_neg e]; rfl
    · show ((look (upd D.fs f.born fun x => { x with kv := kv, kept := keepF nm f.kept D.chs }) nm').map fun f => f.kept).getD [] = _
      rw [hlk]
      by_cases e : nm' = nm
      · rw [if_pos e, if_pos e, hsn, ← hkf]; rfl
      · rw [if_neg e, if_neg e]; rfl
  · have hl' : look D.fs nm = none := hl
    have hsn : seenOf D nm = [] := by unfold seenOf; rw [hl']; rfl
    refine core ({ Go.Proofs.YteocmhbllckpjaaGreat.stepped D with cv := cv, chs := others nm (Go.Proofs.YteocmhbllckpjaaGreat.stepped D).chs }) h.uniq h.nodup (fun g hg => ⟨h.born g hg, h.two g hg, h.lens g hg⟩) (fun nm' hx => hx) (fun nm' => rfl) (fun nm' => ?_) rfl rfl rfl rfl rfl hdo rfl
    by_cases e : nm' = nm
    · rw [if_pos e, e, hsn]
      show ((look D.fs nm).map fun f => f.kept).getD [] = _
      rw [hl']; rfl
    · rw [if_neg e]; rfl

theorem JI.fl {r : Int} {D : DS} {i : Nat} (h : JI r D i) (nm : ByteArray) : (seenOf D nm).length = Go.Proofs.YteocmhbllckpjaaGreat.flen D nm := by
  unfold Go.Proofs.YteocmhbllckpjaaGreat.flen seenOf
  cases look D.fs nm <;> simp
/-- A disk behind a step that changes what is seen of a file. -/
structure Chg (D : DS) (nm : ByteArray) (l : List UInt8) (D' : DS) (cs : List Ch) : Prop where
  seen : ∀ nm', seenOf D' nm' = if nm' = nm then l else seenOf D nm'
  kept : ∀ nm', keptOf D' nm' = keptOf D nm'
  chs : D'.chs = D.chs ++ cs
  fuse : D'.fuse = (stepped D).fuse
  down : D'.down = (Go.Proofs.YteocmhbllckpjaaGreat.stepped D).down
def cutC (nm : ByteArray) (n : Nat) : Ch := ⟨nm, -1, (n : Int), List.replicate 64 0⟩
theorem write_j (w : World) (base b : Nat) (D : DS) (who : Nat → Nat) (R : Rep w base b D who) {r : Int} {i : Nat} (h : JI r D i) (hi : i ≤ 20000) (nm : ByteArray) (hnm : nm = nmD ∨ nm = nmJ) (s : ByteArray) (at_ : Nat) (hs0 : 0 < s.size) (hs : s.size ≤ 2000) (hend : at_ + s.size ≤ 60000)
    (hroom : at_ + s.size ≤ flen D nm ∨ (total D : Int) + ((at_ + s.size : Nat) - (flen D nm : Int)) ≤ r) :
    Calls Tryz.prog 35 #[.pointer (some ⟨b, 0, none⟩), .string nm, .int .i64 at_, .string s] w fun e w' => e = .returned (.int .i64 (ans D)) ∧ ∃ D' who', RM w D w' base b D' who' ∧ JX r D' (i + 1) ∧ Chg D nm (wseen (seenOf D nm) at_ s.data.toList) D' (wchs nm (seenOf D nm) at_ s.data.toList) := by
  have hsl : s.data.toList.length = s.size := by rw [Array.length_toList]; rfl
  refine (write_moves w base b D who R (h.fine hi) h.down nm s at_ hs0 (by omega) (by rw [h.room]; exact hroom)).mono ?_
  rintro e w' ⟨rfl, f1, D1, v', cv', who', hE, R'⟩
  obtain ⟨e1, e2, e3⟩ := entered_seen hE
  have hl : (wseen f1.seen at_ s.data.toList).length ≤ 60000 := by
    rw [length_wseen, e1, h.fl]
    have := h.flen nm
    omega
  obtain ⟨k1, k2, k3⟩ := h.toJX.change hnm hE v' cv' (wseen f1.seen at_ s.data.toList) (wchs nm f1.seen at_ s.data.toList) hl (wchs_okN (by omega)) (wchs_lenN (by omega)) (keep_wchs nm f1.seen s.data.toList at_ (by omega))
  obtain ⟨q1, q2, q3, q4, q5, q6⟩ := Entered.facts hE
  refine ⟨rfl, _, who', R', k1, ?_, k3, ?_, ?_, ?_⟩
  · rw [← e1]; exact k2
  · rw [← e1, ← q6]; rfl
  · show (if D1.fuse = 0 then 0 else D1.fuse - 1) = (if D.fuse = 0 then 0 else D.fuse - 1)
    rw [q1]
  · show (D1.down || D1.fuse == 1) = (D.down || D.fuse == 1)
    rw [q1, q3]
theorem cut_j (w : World) (base b : Nat) (D : DS) (who : Nat → Nat) (R : Rep w base b D who) {r : Int} {i : Nat} (h : JI r D i) (hi : i ≤ 20000) (nm : ByteArray) (hnm : nm = nmD ∨ nm = nmJ) (n : Nat) (hn : n ≤ 60000) (hroom : n ≤ flen D nm ∨ (total D : Int) + ((n : Int) - (flen D nm : Int)) ≤ r) :
    Calls Tryz.prog 133 #[.pointer (some ⟨b, 0, none⟩), .string nm, .int .i64 n] w fun e w' => e = .returned (.int .i64 (ans D)) ∧ ∃ D' who', RM w D w' base b D' who' ∧ JX r D' (i + 1) ∧ Chg D nm (rsz (seenOf D nm) n) D' (if n = (seenOf D nm).length then [] else [cutC nm n]) := by
  refine (truncate_moves w base b D who R (h.fine hi) h.down nm n (by omega) (by rw [h.room]; exact hroom)).mono ?_
  rintro e w' ⟨rfl, D', who', hC, R'⟩
  rcases hC with ⟨hx, rfl⟩ | ⟨hx, f1, D1, v', cv', hE, rfl⟩
  · have hx' := h.fl nm
    rw [← hx] at hx'
    refine ⟨rfl, _, who', R', h.toJX.stepped, fun nm' => ?_, fun nm' => rfl, ?_, rfl, rfl⟩
    · by_cases e : nm' = nm
      · rw [if_pos e, e]
        unfold rsz
        rw [if_pos (by omega), List.take_of_length_le (by omega)]
        rfl
      · rw [if_neg e]; rfl
    · rw [if_pos hx'.symm, List.append_nil]; rfl
  · obtain ⟨e1, e2, e3⟩ := entered_seen hE
    have hx' : ¬ n = (seenOf D nm).length := by have := h.fl nm; omega
    obtain ⟨k1, k2, k3⟩ := h.toJX.change hnm hE v' cv' (rsz f1.seen n) [⟨nm, -1, n, List.replicate 64 0⟩] (by rw [length_rsz]; omega) (fun c hc => by
        obtain rfl := List.mem_singleton.1 hc
        exact ⟨rfl, .inl rfl, by show (0 : Int) ≤ (n : Int); omega, by show (n : Int) ≤ 60000; omega⟩) (by simp) (by
        show (if isN nm ⟨nm, -1, (n : Int), List.replicate 64 0⟩ then takeL f1.seen ⟨nm, -1, (n : Int), List.replicate 64 0⟩ 1 else f1.seen) = _
        rw [isN_self, if_pos rfl]
        unfold takeL
        rw [if_neg (by decide), if_pos rfl]
        show rsz f1.seen (n : Int).toNat = _
        rw [Int.toNat_natCast])
    obtain ⟨q1, q2, q3, q4, q5, q6⟩ := Entered.facts hE
    refine ⟨rfl, _, who', R', k1, ?_, k3, ?_, ?_, ?_⟩
    · rw [← e1]; exact k2
    · rw [if_neg hx', ← q6]; rfl
    · show (if D1.fuse = 0 then 0 else D1.fuse - 1) = (if D.fuse = 0 then 0 else D.fuse - 1)
      rw [q1]
    · show (D1.down || D1.fuse == 1) = (D.down || D.fuse == 1)
      rw [q1, q3]
theorem sync_j (w : World) (base b : Nat) (D : DS) (who : Nat → Nat) (R : Rep w base b D who) {r : Int} {i : Nat} (h : JI r D i) (hi : i ≤ 20000) (hf1 : D.fuse ≠ 1) (nm : ByteArray) :
    Calls Tryz.prog 127 #[.pointer (some ⟨b, 0, none⟩), .string nm] w fun e w' => e = .returned (.int .i64 0) ∧ ∃ D' who', RM w D w' base b D' who' ∧ JI r D' (i + 1) ∧ (∀ nm', seenOf D' nm' = seenOf D nm') ∧ (∀ nm', keptOf D' nm' = if nm' = nm then seenOf D nm else keptOf D nm') ∧ D'.chs = others nm D.chs ∧ D'.fuse = (stepped D).fuse := by
  refine (sync_moves w base b D who R (h.sane hi) (h.fine hi) h.down hf1 nm).mono ?_
  rintro e w' ⟨rfl, D', who', R', hK⟩
  exact ⟨rfl, D', who', R', h.sync hf1 hK⟩
theorem sync_x (w : World) (base b : Nat) (D : DS) (who : Nat → Nat) (R : Rep w base b D who) {r : Int} {i : Nat} (h : JI r D i) (hi : i ≤ 20000) (hf1 : D.fuse = 1) (nm : ByteArray) :
    Calls Tryz.prog 127 #[.pointer (some ⟨b, 0, none⟩), .string nm] w fun e w' => e = .returned (.int .i64 7) ∧ ∃ D' who', RM w D w' base b D' who' ∧ JX r D' (i + 1) ∧ D' = stepped D := by
  have RF := hide (refusal_rep w base b D who R)
  have F := h.fine hi
  have ES := hide (endStep_moves w base b D who R F.f0 F.f1 F.s0 F.s1)
  have HA : ans D = 7 := if_pos hf1
  have HJ : Hid (JX r (stepped D) (i + 1)) := h.toJX.stepped
  have hdn := h.down
  clear R F hf1 h
  go_enter Tryz.func127, Tryz.ntmps127
  go_wp2_with (first
    | (go_at_call 38; refine Calls.mono RF.out ?_; rintro e w0 ⟨rfl, rfl⟩; rw [hdn])
    | (go_at_call 70; refine Calls.mono ES.out ?_; rintro e w1 ⟨rfl, hR1⟩; rw [HA]; have HR1 := hide hR1; clear hR1))
  go_ret
  exact ⟨rfl, _, who, HR1.out, HJ.out, rfl⟩
end Go.Proofs.YteocmhbllckpjaaGreat
