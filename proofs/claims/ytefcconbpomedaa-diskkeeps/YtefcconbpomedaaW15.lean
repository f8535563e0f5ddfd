/- DiskKeeps: two disks side by side; what is read in the end. -/
import Derived.Test.YtefcconbpomedaaW14
namespace Go.Proofs.Ytefcconbpomedaa
open Go.ChangeShapes Go.WideShapes Go.ChangeAt Go.RowKit
set_option linter.unusedVariables false

section
variable {w w' : World} {base b : Nat} {D : DS} {who : Nat → Nat}
theorem Rep.apart (R : Rep w base b D who) {S : List Nat} (h : Only S w w') (hd : ∀ k, Foot b D k → k ∉ S) : Rep w' base b D who :=
  R.only h (hd _ (.inl rfl)) (hd _ (.inr (.inl rfl))) (fun g hg => hd _ (.inr (.inr (.inl hg)))) (fun f hf => hd _ (.inr (.inr (.inr ⟨f, hf, .inl rfl⟩)))) (fun f hf g hg => hd _ (.inr (.inr (.inr ⟨f, hf, .inr (.inl hg)⟩)))) (fun f hf g hg => hd _ (.inr (.inr (.inr ⟨f, hf, .inr (.inr hg)⟩))))
theorem Rep.low (R : Rep w base b D who) {B : Nat} (hF : ∀ k, Foot b D k → k < B) (h : Below B w w') : Rep w' base b D who := by
  obtain ⟨a1, a2, a3, a4, a5⟩ := h
  have hO : Only ((List.range w.heap.size).filter (fun k => decide (B ≤ k))) w w' := ⟨a1, a2, a3, a4, fun k hk hn => a5 k (Nat.lt_of_not_le fun hc => hn (List.mem_filter.2 ⟨List.mem_range.2 hk, by simpa using hc⟩))⟩
  exact R.apart hO (fun k hk hm => by
    have h1 := hF k hk
    have h2 := (List.mem_filter.1 hm).2
    simp at h2
    omega)
theorem foot_down {k : Nat} {x : Bool} (h : Foot b { D with down := x } k) : Foot b D k := h
theorem crash_only (R : Rep w base b D who) :
    Calls Try.prog 10 #[.pointer (some ⟨b, 0, none⟩)] w fun e w' => e = .returned (.tuple #[]) ∧ Rep w' base b { D with down := true } who ∧ Only [b] w w' := by
  have M := made_rep w base b D who R
  have h6 := R.blk.cell 6
  have f6 := R.blk.frozen 6
  simp at h6
  have HR : Hid (Rep w base b D who) := R
  clear R
  go_enter Try.func10, Try.ntmps10
  go_wp2_with (go_at_call 32; refine M.mono ?_; rintro e w1 ⟨rfl, rfl⟩)
  go_end0
  have R := HR.out
  refine ⟨rfl, R.setD (Only.cellAt _ _ _ _) { D with down := true } rfl rfl rfl rfl rfl ?_, Only.cellAt _ _ _ _⟩
  have := R.blk.set 6 (.bool true)
  simpa [DS.cells] using this
end
theorem CopyOf.view {D D' : DS} (h : CopyOf D D') (hU : Uniq D.fs) (nm : ByteArray) : seenOf D' nm = seenOf D nm ∧ keptOf D' nm = keptOf D nm ∧ (look D'.fs nm = none ↔ look D.fs nm = none) := by
  unfold seenOf keptOf
  cases hl' : look D'.fs nm with
  | some f' =>
    obtain ⟨h1, h2⟩ := look_some hl'
    obtain ⟨f, hf, e1, e2, e3⟩ := h.from_ f' h1
    have : look D.fs nm = some f := by rw [h2, ← e1]; exact hU f hf
    rw [this]
    exact ⟨e2.symm, e3.symm, by simp⟩
  | none =>
    cases hl : look D.fs nm with
    | none => exact ⟨rfl, rfl, by simp⟩
    | some f =>
      exfalso
      obtain ⟨h1, h2⟩ := look_some hl
      obtain ⟨f', hf', e⟩ := h.all_ f h1
      obtain ⟨g, hg⟩ := look_mem hf'
      rw [e, ← h2, hl'] at hg
      cases hg
theorem keptJ_others {chs : List Ch} {ch : Nat → Int} {nm : ByteArray} {l : List UInt8} (h : ∀ c ∈ chs, isN nm c = false) : ∀ j, keptJ chs ch nm l j = l
  | 0 => rfl
  | j + 1 => by
    have ih := keptJ_others (ch := ch) (l := l) h j
    rw [keptJ]
    split
    · rename_i c hcj
      rw [h c (List.mem_of_getElem? hcj), if_neg (by decide), ih]
    · exact ih
theorem nmAB : nmA ≠ nmB := by decide
/-- Sane things stay sane when a disk goes down. -/
theorem KI.facts {D : DS} {i : Nat} (h : KI D i) : ∀ nm, look D.fs nm = none → ∀ c ∈ D.chs, isN nm c = false := fun nm hl c hc => isN_of (fun e => by
  obtain ⟨f, hf⟩ := h.has c hc
  rw [e, hl] at hf
  cases hf)
/-- What DiskKeeps reads in the end. -/
theorem keeps_end {D2 D3 D4 D9 D10 : DS} {i j : Nat} (k2 : KI D2 i) (k3 : KI D3 j) (hO : Others D2 nmB D3) (hs : keptOf D2 nmA = seenOf D2 nmA) (hn : ∀ c ∈ D2.chs, c.name ≠ nmA) (hC : CopyOf D3 D4) {ch ch1 : Nat → Int} (h9 : Restc { D3 with down := true } D9 ch) (h10 : Restc { D4 with down := true } D10 ch1) (h4n : (D4.fs.map (·.born)).Nodup) (h1 : ∀ x, x < D3.chs.length → ch1 x = 1) :
    seenOf D9 nmA = seenOf D2 nmA ∧ seenOf D10 nmA = seenOf D2 nmA ∧ seenOf D10 nmB = seenOf D3 nmB := by
  have hA : ∀ c ∈ D3.chs, isN nmA c = false := fun c hc => isN_of (fun e => by
    rcases hO.2.2 c hc with h | h
    · exact hn c h e
    · exact nmAB (e.symm.trans h))
  have a1 : seenOf D9 nmA = seenOf D2 nmA := by
    rw [h9.seen k3.nodup k3.uniq k3.facts nmA]
    show keptJ D3.chs ch nmA (keptOf D3 nmA) D3.chs.length = _
    rw [keptJ_others hA, hO.2.1 nmA, hs]
  have a2 : ∀ nm, seenOf D10 nm = seenOf D3 nm := fun nm => by
    rw [h10.seen h4n hC.uniq (fun nm hl c hc => k3.facts nm ((hC.view k3.uniq nm).2.2.1 hl) c (hC.chs ▸ hc)) nm]
    show keptJ D4.chs ch1 nm (keptOf D4 nm) D4.chs.length = _
    rw [hC.chs, (hC.view k3.uniq nm).2.1, keptJ_one _ _ _ _ _ (Nat.le_refl _) h1, List.take_length]
    exact k3.full nm
  exact ⟨a1, by rw [a2, hO.1 nmA nmAB], a2 nmB⟩
end Go.Proofs.Ytefcconbpomedaa
