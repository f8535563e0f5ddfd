/- DiskSteps: what the disk is between two writes. -/
import Derived.Test.YtefcconbpomedaaV11
import Derived.Test.YtefcconbpomedaaQ
namespace Go.Proofs.Ytefcconbpomedaa
open Go.ChangeShapes Go.WideShapes Go.ChangeAt Go.RowKit
set_option linter.unusedVariables false

/-- A change of the one file. -/
def ChOk (c : Ch) : Prop := c.name = nmF ∧ (c.sector = -1 ∨ (0 ≤ c.sector ∧ c.sector ≤ 16384)) ∧ 0 ≤ c.size ∧ c.size ≤ 1048576
/-- The disk behind some writes into one file. -/
structure StI (D : DS) (i : Nat) : Prop where
  one : (D.fs = [] ∧ D.chs = []) ∨ ∃ f, D.fs = [f] ∧ f.name = nmF ∧ f.seen.length ≤ 6100 ∧ f.kept = [] ∧ ∀ c ∈ D.chs, ChOk c
  chn : D.chs.length ≤ 40 * i
  room : D.room = 200000
  f0 : 0 ≤ D.fuse
  f1 : D.fuse ≤ 9223372036854775807
  s0 : 0 ≤ D.steps
  s1 : D.steps ≤ i
  st : 0 ≤ D.starts ∧ D.starts ≤ 1000000 + i
  born : ∀ f ∈ D.fs, f.born < D.clock
theorem nmF_beq : (nmF == nmF) = true := bytes_beq nmF
theorem StI.sane {D : DS} {i : Nat} (h : StI D i) (hi : i ≤ 100) : Sane D := by
  have hc := h.chn
  rcases h.one with ⟨h1, h2⟩ | ⟨f, h1, h2, h3, h4, h5⟩
  · exact ⟨(by rw [h2]; intro c hc; cases hc), (by rw [h2]; intro c hc; cases hc), (by rw [h1]; intro c hc; cases hc), (by rw [h2]; intro c hc; cases hc), by omega⟩
  · refine ⟨fun c hc => (h5 c hc).2.1, fun c hc => (h5 c hc).2.2, ?_, fun c hc => ⟨f, ?_⟩, by omega⟩
    · rw [h1]; intro x hx
      obtain rfl : x = f := by simpa using hx
      rw [h4]; simp
    · rw [h1, (h5 c hc).1]
      simp [look, h2, nmF_beq]
theorem StI.uniq {D : DS} {i : Nat} (h : StI D i) : Uniq D.fs := by
  rcases h.one with ⟨h1, h2⟩ | ⟨f, h1, h2, h3, h4, h5⟩
  · rw [h1]; intro f hf; cases hf
  · rw [h1]; intro x hx
    obtain rfl : x = f := by simpa using hx
    simp [look, bytes_beq]
theorem StI.flen {D : DS} {i : Nat} (h : StI D i) : flen D nmF ≤ 6100 ∧ total D = flen D nmF := by
  unfold Go.Proofs.Ytefcconbpomedaa.flen total tot
  rcases h.one with ⟨h1, h2⟩ | ⟨f, h1, h2, h3, h4, h5⟩
  · rw [h1]; simp [look]
  · rw [h1]; simp [look, h2, nmF_beq]; exact h3
theorem StI.fine {D : DS} {i : Nat} (h : StI D i) (hi : i ≤ 100) : Fine D := by
  have hc := h.chn
  have h9 := h.flen
  refine ⟨?_, by omega, by omega, h.f0, h.f1, h.s0, by have := h.s1; omega⟩
  rcases h.one with ⟨h1, h2⟩ | ⟨f, h1, h2, h3, h4, h5⟩
  · rw [h1]; intro f hf; cases hf
  · rw [h1]; intro x hx
    obtain rfl : x = f := by simpa using hx
    omega
theorem StI.stepped {D : DS} {i : Nat} (h : StI D i) : StI (stepped D) (i + 1) := by
  refine ⟨h.one, by have := h.chn; show D.chs.length ≤ _; omega, h.room, ?_, ?_, ?_, ?_, by have := h.st; show 0 ≤ D.starts ∧ D.starts ≤ 1000000 + ((i + 1 : Nat) : Int); omega, h.born⟩
  · show 0 ≤ (if D.fuse = 0 then 0 else D.fuse - 1)
    have := h.f0
    split <;> omega
  · show (if D.fuse = 0 then 0 else D.fuse - 1) ≤ _
    have := h.f1
    split <;> omega
  · show 0 ≤ D.steps + 1
    have := h.s0; omega
  · show D.steps + 1 ≤ ((i + 1 : Nat) : Int)
    have := h.s1; omega
theorem wchs_ok {l d : List UInt8} {at_ : Nat} (hat : at_ ≤ 4095) (hd : d.length ≤ 2000) (c : Ch) (hc : c ∈ wchs nmF l at_ d) : ChOk c := by
  unfold wchs at hc
  rcases List.mem_append.1 hc with h | h
  · unfold wsize at h
    split at h
    · have e : c = Ch.mk nmF (-1) ((at_ + d.length : Nat) : Int) (List.replicate 64 0) := by simpa using h
      rw [e]
      exact ⟨rfl, .inl rfl, by show (0 : Int) ≤ ((at_ + d.length : Nat) : Int); omega, by show ((at_ + d.length : Nat) : Int) ≤ 1048576; omega⟩
    · cases h
  · unfold secs at h
    obtain ⟨k, hk, rfl⟩ := List.mem_map.1 h
    rw [List.mem_range'_1] at hk
    exact ⟨rfl, .inr ⟨by show (0 : Int) ≤ (k : Int); omega, by show (k : Int) ≤ 16384; omega⟩, by show (0 : Int) ≤ 0; omega, by show (0 : Int) ≤ 1048576; omega⟩
theorem wchs_len {l d : List UInt8} {at_ : Nat} (hd : d.length ≤ 2000) : (wchs nmF l at_ d).length ≤ 40 := by
  unfold wchs
  rw [List.length_append, length_secs]
  have : (wsize nmF l (at_ + d.length)).length ≤ 1 := by unfold wsize; split <;> simp
  omega
/-- A write into the one file. -/
theorem StI.write {D D1 : DS} {i : Nat} (h : StI D i) {f1 : FL} (hE : Entered D nmF f1 D1) (v cv : Value) (s : ByteArray) (at_ : Nat) (hat : at_ ≤ 4095) (hs : s.data.toList.length ≤ 2000) :
    StI (Go.Proofs.Ytefcconbpomedaa.stepped { D1 with fs := upd D1.fs f1.born fun x => { x with sv := v, seen := wseen f1.seen at_ s.data.toList }, cv := cv, chs := D1.chs ++ wchs nmF f1.seen at_ s.data.toList }) (i + 1) := by
  have hl := length_wseen f1.seen at_ s.data.toList
  have hw := wchs_len (l := f1.seen) (at_ := at_) hs
  have hcn := h.chn
  have key : (∃ f, upd D1.fs f1.born (fun x => { x with sv := v, seen := wseen f1.seen at_ s.data.toList }) = [f] ∧ f.name = nmF ∧ f.seen.length ≤ 6100 ∧ f.kept = [] ∧ ∀ c ∈ D1.chs ++ wchs nmF f1.seen at_ s.data.toList, ChOk c) ∧ D1.chs.length ≤ 40 * i ∧ D1.room = D.room ∧ D1.fuse = D.fuse ∧ D1.steps = D.steps ∧ D1.starts = D.starts ∧ ∀ f ∈ upd D1.fs f1.born (fun x => { x with sv := v, seen := wseen f1.seen at_ s.data.toList }), f.born < D1.clock := by
    rcases hE with ⟨hlk, rfl⟩ | ⟨hlk, eb, rfl, rfl⟩
    · rcases h.one with ⟨h1, h2⟩ | ⟨f, h1, h2, h3, h4, h5⟩
      · rw [h1] at hlk; simp [look] at hlk
      · have e : f1 = f := by
          rw [h1] at hlk
          simp [look, h2, nmF_beq] at hlk
          exact hlk.symm
        subst e
        refine ⟨⟨{ f1 with sv := v, seen := wseen f1.seen at_ s.data.toList }, ?_, h2, ?_, h4, ?_⟩, hcn, rfl, rfl, rfl, rfl, ?_⟩
        · rw [h1]; simp [upd]
        · show (wseen f1.seen at_ s.data.toList).length ≤ 6100
          rw [hl]; omega
        · intro c hc
          rcases List.mem_append.1 hc with hc | hc
          · exact h5 c hc
          · exact wchs_ok hat hs c hc
        · intro x hx
          rw [h1] at hx
          simp [upd] at hx
          rw [hx]
          exact h.born f1 (by rw [h1]; simp)
    · rcases h.one with ⟨h1, h2⟩ | ⟨f, h1, h2, h3, h4, h5⟩
      · refine ⟨⟨{ (FL.fresh nmF eb D.clock) with sv := v, seen := wseen [] at_ s.data.toList }, ?_, rfl, ?_, rfl, ?_⟩, hcn, rfl, rfl, rfl, rfl, ?_⟩
        · rw [h1]; simp [upd, FL.fresh]
        · show (wseen [] at_ s.data.toList).length ≤ 6100
          rw [length_wseen]; simp; simp at hs; omega
        · intro c hc
          rcases List.mem_append.1 hc with hc | hc
          · have hc' : c ∈ D.chs := hc
            rw [h2] at hc'; cases hc'
          · exact wchs_ok hat hs c hc
        · intro x hx
          rw [h1] at hx
          simp [upd, FL.fresh] at hx
          rw [hx]
          exact Nat.lt_succ_self _
      · rw [h1] at hlk; simp [look, h2, nmF_beq] at hlk
  obtain ⟨k1, k2, k3, k4, k5, k6, k7⟩ := key
  refine ⟨.inr k1, ?_, ?_, ?_, ?_, ?_, ?_, ?_, k7⟩
  · show (D1.chs ++ wchs nmF f1.seen at_ s.data.toList).length ≤ _
    rw [List.length_append]; omega
  · show D1.room = _
    rw [k3]; exact h.room
  · show 0 ≤ (if D1.fuse = 0 then 0 else D1.fuse - 1)
    have := h.f0
    rw [k4]
    split <;> omega
  · show (if D1.fuse = 0 then 0 else D1.fuse - 1) ≤ _
    have := h.f1
    rw [k4]
    split <;> omega
  · show 0 ≤ D1.steps + 1
    have := h.s0; omega
  · show D1.steps + 1 ≤ ((i + 1 : Nat) : Int)
    have := h.s1; omega
  · show 0 ≤ D1.starts ∧ D1.starts ≤ 1000000 + ((i + 1 : Nat) : Int)
    have := h.st
    rw [k6]; omega
end Go.Proofs.Ytefcconbpomedaa
