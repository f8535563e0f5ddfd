/- DiskKeeps, plain: a file is synced; a disk is started again. -/
import Derived.Test.YtefcconbpomedaaW13
import Derived.Test.YtefcconbpomedaaW7
import Derived.Test.YtefcconbpomedaaW11
namespace Go.Proofs.Ytefcconbpomedaa
open Go.ChangeShapes Go.WideShapes Go.ChangeAt Go.RowKit
set_option linter.unusedVariables false

theorem look_without {fs : List FL} (hU : Uniq fs) (hn : (fs.map (·.born)).Nodup) {nm : ByteArray} {f : FL} (hl : look fs nm = some f) (nm' : ByteArray) : look (fs.filter (fun x => x.born != f.born)) nm' = if nm' = nm then none else look fs nm' := by
  obtain ⟨hf, hnm⟩ := look_some hl
  by_cases e : nm' = nm
  · rw [if_pos e]
    cases hg : look (fs.filter (fun x => x.born != f.born)) nm' with
    | none => rfl
    | some g =>
      exfalso
      obtain ⟨h1, h2⟩ := look_some hg
      obtain ⟨h3, h4⟩ := List.mem_filter.1 h1
      have := hU g h3
      rw [← h2, e, hl] at this
      cases this
      simp at h4
  · rw [if_neg e]
    cases hx : look fs nm' with
    | none =>
      cases hg : look (fs.filter (fun x => x.born != f.born)) nm' with
      | none => rfl
      | some g =>
        exfalso
        obtain ⟨h1, h2⟩ := look_some hg
        obtain ⟨y, hy⟩ := look_mem (List.mem_filter.1 h1).1
        rw [← h2, hx] at hy
        cases hy
    | some x =>
      obtain ⟨h1, h2⟩ := look_some hx
      have hb : x.born ≠ f.born := fun eb => by
        have : x = f := FL.inj hn h1 hf eb
        exact e (by rw [h2, hnm, this])
      have hm : x ∈ fs.filter (fun x => x.born != f.born) := List.mem_filter.2 ⟨h1, by simpa using hb⟩
      have := (hU.sub (fun y hy => (List.mem_filter.1 hy).1)) x hm
      rw [h2]; exact this
/-- A file without bytes is forgotten. -/
theorem forget_view {D : DS} (hU : Uniq D.fs) (hn : (D.fs.map (·.born)).Nodup) (nm : ByteArray) (hk : keptOf D nm = seenOf D nm) :
    (∀ nm', seenOf (forgetD D nm) nm' = seenOf D nm') ∧ (∀ nm', keptOf (forgetD D nm) nm' = keptOf D nm') ∧ (∀ f ∈ (forgetD D nm).fs, f ∈ D.fs) ∧ ((forgetD D nm).fs.map (·.born)).Nodup ∧ (∀ nm', nm' ≠ nm → look (forgetD D nm).fs nm' = look D.fs nm') ∧
    (forgetD D nm).chs = D.chs ∧ (forgetD D nm).clock = D.clock ∧ (forgetD D nm).room = D.room ∧ (forgetD D nm).fuse = D.fuse ∧ (forgetD D nm).steps = D.steps ∧ (forgetD D nm).starts = D.starts ∧ (forgetD D nm).down = D.down := by
  unfold forgetD
  by_cases h0 : flen D nm = 0
  · rw [if_pos h0]
    cases hl : look D.fs nm with
    | none => exact ⟨fun _ => rfl, fun _ => rfl, fun _ h => h, hn, fun _ _ => rfl, rfl, rfl, rfl, rfl, rfl, rfl, rfl⟩
    | some f =>
      have hlw := look_without hU hn hl
      have hs0 : seenOf D nm = [] := by
        unfold flen at h0
        unfold seenOf
        rw [hl] at h0 ⊢
        exact List.length_eq_zero_iff.1 (by simpa using h0)
      refine ⟨fun nm' => ?_, fun nm' => ?_, fun g hg => (List.mem_filter.1 hg).1, hn.sublist (List.Sublist.map _ List.filter_sublist), fun nm' e => ?_, rfl, rfl, rfl, rfl, rfl, rfl, rfl⟩
      · show ((look (D.fs.filter (fun x => x.born != f.born)) nm').map fun f => f.seen).getD [] = _
        rw [hlw]
        by_cases e : nm' = nm
        · rw [if_pos e, e, hs0]; rfl
        · rw [if_neg e]; rfl
      · show ((look (D.fs.filter (fun x => x.born != f.born)) nm').map fun f => f.kept).getD [] = _
        rw [hlw]
        by_cases e : nm' = nm
        · rw [if_pos e, e, hk, hs0]; rfl
        · rw [if_neg e]; rfl
      · show look (D.fs.filter (fun x => x.born != f.born)) nm' = _
        rw [hlw, if_neg e]
  · rw [if_neg h0]
    exact ⟨fun _ => rfl, fun _ => rfl, fun _ h => h, hn, fun _ _ => rfl, rfl, rfl, rfl, rfl, rfl, rfl, rfl⟩
theorem keepF_filter {nm nm' : ByteArray} (hne : nm' ≠ nm) : ∀ (cs : List Ch) (l : List UInt8), keepF nm' l (others nm cs) = keepF nm' l cs
  | [], _ => rfl
  | c :: r, l => by
    unfold others
    rw [List.filter_cons]
    cases hb : isN nm c with
    | true =>
      have hb' : isN nm' c = false := isN_of (fun e => hne (e.symm.trans (isN_eq hb)))
      show keepF nm' l (others nm r) = keepF nm' (if isN nm' c then takeL l c 1 else l) r
      rw [hb', keepF_filter hne r l]
      rfl
    | false =>
      show keepF nm' (if isN nm' c then takeL l c 1 else l) (others nm r) = keepF nm' (if isN nm' c then takeL l c 1 else l) r
      exact keepF_filter hne r _
theorem isN_name {nm : ByteArray} {c : Ch} (h : c.name = nm) : isN nm c = true := by unfold isN; rw [h]; simp
/-- A file was synced. -/
theorem KI.sync {D D' : DS} {i : Nat} (h : KI D i) {nm : ByteArray} (hK : KeptD (Go.Proofs.Ytefcconbpomedaa.stepped D) nm D') :
    KI D' (i + 1) ∧ (∀ nm', seenOf D' nm' = seenOf D nm') ∧ keptOf D' nm = seenOf D nm ∧ ∀ c ∈ D'.chs, c.name ≠ nm := by
  have hS := h.stepped
  have core : ∀ D2 : DS, Uniq D2.fs → (D2.fs.map (·.born)).Nodup → (∀ f ∈ D2.fs, f.born < D2.clock ∧ (f.name = nmA ∨ f.name = nmB) ∧ f.seen.length ≤ 6100 ∧ f.kept.length ≤ 6100) → (∀ nm', (∃ f, look D.fs nm' = some f) → ∃ f, look D2.fs nm' = some f) →
      (∀ nm', seenOf D2 nm' = seenOf D nm') → (∀ nm', keptOf D2 nm' = if nm' = nm then seenOf D nm else keptOf D nm') → D2.chs = others nm D.chs → D2.room = D.room → D2.fuse = 0 → D2.steps = D.steps + 1 → D2.starts = D.starts → D2.down = false →
      D' = forgetD D2 nm → KI D' (i + 1) ∧ (∀ nm', seenOf D' nm' = seenOf D nm') ∧ keptOf D' nm = seenOf D nm ∧ ∀ c ∈ D'.chs, c.name ≠ nm := fun D2 u1 u2 u3 u4 u5 u6 u7 u8 u9 u10 u11 u12 e => by
    have hk : keptOf D2 nm = seenOf D2 nm := by rw [u6, u5, if_pos rfl]
    obtain ⟨v1, v2, v3, v4, v5, v6, v7, v8, v9, v10, v11, v12⟩ := forget_view u1 u2 nm hk
    have hno : ∀ c ∈ others nm D.chs, c.name ≠ nm := fun c hc e' => by
      have := (List.mem_filter.1 hc).2
      rw [isN_name e'] at this
      cases this
    subst e
    refine ⟨⟨u1.sub v3, v4, fun f hf => by rw [v7]; exact (u3 f (v3 f hf)).1, fun f hf => (u3 f (v3 f hf)).2.1, fun f hf => (u3 f (v3 f hf)).2.2, fun c hc => ?_, fun c hc => ?_, ?_, ?_, ?_, ?_, ?_, ?_, fun nm' => ?_⟩, fun nm' => by rw [v1, u5], by rw [v2, u6, if_pos rfl], fun c hc => ?_⟩
    · rw [v6, u7] at hc
      exact h.chw c (List.mem_filter.1 hc).1
    · rw [v6, u7] at hc
      rw [v5 c.name (hno c hc)]
      exact u4 _ (h.has c (List.mem_filter.1 hc).1)
    · rw [v6, u7]
      have h1 : (others nm D.chs).length ≤ D.chs.length := List.length_filter_le _ _
      have := h.few
      omega
    · rw [v8, u8]; exact h.room
    · rw [v9]; exact u9
    · rw [v10, u10]
      have := h.steps
      omega
    · rw [v11, u11]; exact h.starts
    · rw [v12]; exact u12
    · rw [v1, v2, v6, u5, u6, u7]
      by_cases e : nm' = nm
      · rw [if_pos e, e]
        exact keepF_others (fun c hc => isN_of (hno c hc))
      · rw [if_neg e, keepF_filter e, h.full]
    · rw [v6, u7] at hc
      exact hno c hc
  have hfu : (Go.Proofs.Ytefcconbpomedaa.stepped D).fuse = 0 := hS.fuse
  have hdo : (Go.Proofs.Ytefcconbpomedaa.stepped D).down = false := hS.down
  rcases hK with ⟨f, kv, cv, hl, rfl⟩ | ⟨hl, cv, rfl⟩
  · have hl' : look D.fs nm = some f := hl
    obtain ⟨hf, hnm⟩ := look_some hl'
    have hkf : keepF nm f.kept D.chs = f.seen := by
      have := h.full nm
      unfold keptOf seenOf at this
      rw [hl'] at this
      exact this
    have hsn : seenOf D nm = f.seen := by unfold seenOf; rw [hl']; rfl
    have hlk := look_changed h.nodup h.born (.inl ⟨hl', rfl⟩ : Entered D nm f D) (fun x => { x with kv := kv, kept := keepF nm f.kept D.chs }) (fun _ => rfl)
    refine core ({ takeD (Go.Proofs.Ytefcconbpomedaa.stepped D) f kv (keepF nm f.kept (Go.Proofs.Ytefcconbpomedaa.stepped D).chs) with cv := cv, chs := others nm (Go.Proofs.Ytefcconbpomedaa.stepped D).chs }) (h.uniq.upd f.born (fun x => { x with kv := kv, kept := keepF nm f.kept D.chs }) (fun _ => rfl)) ?_ (fun g hg => ?_) (fun nm' hx => ?_) (fun nm' => ?_) (fun nm' => ?_) rfl rfl hfu rfl rfl hdo rfl
    · show ((upd D.fs f.born fun x => { x with kv := kv, kept := keepF nm f.kept D.chs }).map (·.born)).Nodup
      rw [born_upd (g := fun x => { x with kv := kv, kept := keepF nm f.kept D.chs }) (fun _ => rfl)]
      exact h.nodup
    · obtain ⟨x, hx, ⟨e, rfl⟩ | ⟨e, rfl⟩⟩ := mem_upd hg
      · refine ⟨h.born x hx, h.two x hx, (h.lens x hx).1, ?_⟩
        show (keepF nm f.kept D.chs).length ≤ 6100
        rw [hkf]; exact (h.lens f hf).1
      · exact ⟨h.born g hx, h.two g hx, h.lens g hx⟩
    · show ∃ f', look (upd D.fs f.born fun x => { x with kv := kv, kept := keepF nm f.kept D.chs }) nm' = some f'
      rw [hlk]
      split
      · exact ⟨_, rfl⟩
      · exact hx
    · show ((look (upd D.fs f.born fun x => { x with kv := kv, kept := keepF nm f.kept D.chs }) nm').map fun f => f.seen).getD [] = _
      rw [hlk]
      by_cases e : nm' = nm
      · rw [if_pos e, e, hsn]; rfl
      · rw [if_neg e]; rfl
    · show ((look (upd D.fs f.born fun x => { x with kv := kv, kept := keepF nm f.kept D.chs }) nm').map fun f => f.kept).getD [] = _
      rw [hlk]
      by_cases e : nm' = nm
      · rw [if_pos e, if_pos e, hsn, ← hkf]; rfl
      · rw [if_neg e, if_neg e]; rfl
  · have hl' : look D.fs nm = none := hl
    have hsn : seenOf D nm = [] := by unfold seenOf; rw [hl']; rfl
    refine core ({ Go.Proofs.Ytefcconbpomedaa.stepped D with cv := cv, chs := others nm (Go.Proofs.Ytefcconbpomedaa.stepped D).chs }) h.uniq h.nodup (fun g hg => ⟨h.born g hg, h.two g hg, h.lens g hg⟩) (fun nm' hx => hx) (fun nm' => rfl) (fun nm' => ?_) rfl rfl hfu rfl rfl hdo rfl
    by_cases e : nm' = nm
    · rw [if_pos e, e, hsn]
      show ((look D.fs nm).map fun f => f.kept).getD [] = _
      rw [hl']; rfl
    · rw [if_neg e]; rfl
/-- What is seen of a disk that was started again. -/
theorem Restc.seen {D D' : DS} {ch : Nat → Int} (h : Restc D D' ch) (hn : (D.fs.map (·.born)).Nodup) (hU : Uniq D.fs) (hno : ∀ nm, look D.fs nm = none → ∀ c ∈ D.chs, isN nm c = false) (nm : ByteArray) : seenOf D' nm = keptJ D.chs ch nm (keptOf D nm) D.chs.length := by
  have hnone : ∀ (nm : ByteArray) (l : List UInt8) (j : Nat), (∀ c ∈ D.chs, isN nm c = false) → keptJ D.chs ch nm l j = l := fun nm l j hc => by
    induction j with
    | zero => rfl
    | succ j ih =>
      rw [keptJ]
      split
      · rename_i c hcj
        rw [hc c (List.mem_of_getElem? hcj), if_neg (by decide), ih]
      · exact ih
  cases hl' : look D'.fs nm with
  | some f =>
    obtain ⟨h1, h2⟩ := look_some hl'
    obtain ⟨g1, g2, f0, h0, e1, e2, e3⟩ := h.each f h1
    have hl0 : look D.fs nm = some f0 := by rw [h2, ← e2]; exact hU f0 h0
    unfold seenOf keptOf
    rw [hl', hl0]
    show f.seen = keptJ D.chs ch nm f0.kept D.chs.length
    rw [g1, e3, h2, e2]
  | none =>
    unfold seenOf
    rw [hl']
    show [] = _
    cases hl : look D.fs nm with
    | none =>
      unfold keptOf
      rw [hl]
      exact (hnone nm [] _ (hno nm hl)).symm
    | some f0 =>
      obtain ⟨h1, h2⟩ := look_some hl
      unfold keptOf
      rw [hl]
      show [] = keptJ D.chs ch nm f0.kept D.chs.length
      by_cases hk : keptJ D.chs ch nm f0.kept D.chs.length = []
      · exact hk.symm
      · exfalso
        rw [h2] at hk
        obtain ⟨f, hf, _, e2⟩ := h.all_ f0 h1 hk
        obtain ⟨g, hg⟩ := look_mem hf
        rw [e2, ← h2, hl'] at hg
        cases hg
end Go.Proofs.Ytefcconbpomedaa
