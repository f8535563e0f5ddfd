/- A disk that is started again. -/
/- The way back, crashing on it. -/
import Derived.Test.YtfcgjedanhmpiaaLF
import Derived.Test.YtfcgjedanhmpiaaAKM
import Derived.Test.YtfcgjedanhmpiaaW7
namespace Go.Proofs.Ytfcgjedanhmpiaa
open Go.ChangeShapes Go.WideShapes Go.ChangeAt Go.RowKit
open Go.ChangeMaps (setBlock)
set_option linter.unusedVariables false

theorem below_cell {w V : World} (hb : Below w.heap.size w V) {a : Addr} {v : Value} (h : w.cell? a = some v) : V.cell? a = some v := by
  rw [World.cell?_of_block (w := w) (hb.block a.block (World.block_lt_of_cell? w a h))]; exact h
theorem surv_len {r : Int} {D : DS} {i : Nat} (h : JX r D i) {nm : ByteArray} {l X : List UInt8} (hl : l.length ≤ 6100) (hs : Surv nm l D.chs X) : X.length ≤ 6100 :=
  Surv.inv (P := fun Y => Y.length ≤ 6100) (fun c hc _ l k hl => by
    show (takeL l c k).length ≤ 6100
    have hw := (h.chw c hc).2
    unfold takeL
    split
    · exact hl
    · split
      · rw [length_rsz]; omega
      · rw [length_putL]; exact hl) hl hs
theorem look_uniq {fs : List FL} (hU : Uniq fs) {f : FL} (hf : f ∈ fs) : look fs f.name = some f := hU f hf
theorem restc_seen {r : Int} {D D' : DS} {i : Nat} {ch : Nat → Int} (h : JX r D i) (hR : Restc D D' ch) (nm : ByteArray) : seenOf D' nm = keptJ D.chs ch nm (keptOf D nm) D.chs.length := by
  cases hl : look D'.fs nm with
  | some f =>
    obtain ⟨hf, hnm⟩ := look_some hl
    obtain ⟨e1, _, f0, h0, _, e2, e3⟩ := hR.each f hf
    have hk : keptOf D nm = f0.kept := by
      unfold keptOf
      rw [hnm, ← e2, look_uniq h.uniq h0]
      rfl
    unfold seenOf
    rw [hl]
    show f.seen = _
    rw [e1, e3, hk, hnm, ← e2]
  | none =>
    have hs : seenOf D' nm = [] := by unfold seenOf; rw [hl]; rfl
    rw [hs]
    cases hl0 : look D.fs nm with
    | some f0 =>
      obtain ⟨h0, hn0⟩ := look_some hl0
      have hk : keptOf D nm = f0.kept := by unfold keptOf; rw [hl0]; rfl
      rw [hk, hn0]
      by_cases e : keptJ D.chs ch f0.name f0.kept D.chs.length = []
      · exact e.symm
      · exfalso
        obtain ⟨f, hf, _, e2⟩ := hR.all_ f0 h0 e
        have := look_uniq hR.uniq hf
        rw [e2, ← hn0, hl] at this
        cases this
    | none =>
      have hk : keptOf D nm = [] := by unfold keptOf; rw [hl0]; rfl
      rw [hk]
      exact (Surv.other (fun c hc => by
        cases hb : isN nm c with
        | false => rfl
        | true =>
          obtain ⟨f, hf⟩ := h.has c hc
          rw [isN_eq hb, hl0] at hf
          cases hf) (surv_kept (nm := nm) (ch := ch) (l := []) D.chs.length 0 (by omega))).symm
theorem restc_ji {r : Int} {D D' : DS} {i : Nat} {ch : Nat → Int} {w : World} {base b : Nat} {who : Nat → Nat} (h : JX r D i) (hR : Restc D D' ch) (hp : Rep w base b D' who) : JI r D' (i + 1) := by
  refine ⟨⟨hR.uniq, hp.nodup, hp.born, fun f hf => ?_, fun f hf => ?_, fun c hc => ?_, fun c hc => ?_, ?_, ?_, ?_, ?_, ?_, fun nm => ?_⟩, hR.down⟩
  · obtain ⟨_, _, f0, h0, _, e2, _⟩ := hR.each f hf
    rw [← e2]; exact h.two f0 h0
  · obtain ⟨e1, _, f0, h0, _, e2, e3⟩ := hR.each f hf
    have : f.kept.length ≤ 6100 := by
      rw [e3]
      exact surv_len h (h.lens f0 h0).2 (surv_kept (nm := f0.name) (ch := ch) (l := f0.kept) D.chs.length 0 (by omega))
    exact ⟨by rw [e1]; exact this, this⟩
  · rw [hR.chs] at hc; cases hc
  · rw [hR.chs] at hc; cases hc
  · rw [hR.chs]; simp
  · rw [hR.room]; exact h.room
  · rw [hR.fuse]; exact ⟨Int.le_refl _, by decide⟩
  · rw [hR.steps]; omega
  · rw [hR.starts]; have := h.starts; omega
  · rw [hR.chs]
    show keptOf D' nm = seenOf D' nm
    unfold keptOf seenOf
    cases hl : look D'.fs nm with
    | none => rfl
    | some f => exact (hR.each f (look_some hl).1).1.symm
/-- A disk that is up, and of which all is kept. -/
structure Cl (w V : World) (r : Int) (D : DS) (i : Nat) : Prop where
  rep : ∃ who, Rep V w.heap.size (w.heap.size + 1) D who
  ji : JI r D i
  bel : Below w.heap.size w V
  clean : D.chs = []
/-- A disk that is down. -/
structure Dw (w V : World) (r : Int) (D : DS) (i : Nat) (Q : List UInt8 → List UInt8 → Prop) : Prop where
  rep : ∃ who, Rep V w.heap.size (w.heap.size + 1) D who
  jx : JX r D i
  bel : Below w.heap.size w V
  down : D.down = true
  safe : Safe Q (psOf D)
theorem Cl.grown {w V V' : World} {r : Int} {D : DS} {i : Nat} (h : Cl w V r D i) (hg : V.grownBy V' none) : Cl w V' r D i :=
  { h with rep := h.rep.imp fun who R => R.keep hg, bel := h.bel.trans (grown_below h.bel.size hg) }
/-- Rows of pages that are there stay. -/
def Rows2 (V V' : World) : Prop := (∀ q m M, PgR V q m M → PgR V' q m M) ∧ (∀ q m T P, PgA V q m T P → PgA V' q m T P)
theorem Rows2.refl (V : World) : Rows2 V V := ⟨fun _ _ _ h => h, fun _ _ _ _ h => h⟩
theorem Rows2.trans {A B C : World} (h : Rows2 A B) (k : Rows2 B C) : Rows2 A C := ⟨fun q m M x => k.1 q m M (h.1 q m M x), fun q m T P x => k.2 q m T P (h.2 q m T P x)⟩
theorem Rows2.grown {V V' : World} (h : V.grownBy V' none) : Rows2 V V' := ⟨fun _ _ _ x => x.grown h, fun _ _ _ _ x => x.grown h⟩
theorem Rows2.moved {V V' : World} {base b : Nat} {D D' : DS} {who who' : Nat → Nat} (R : Rep V base b D who) (h : RM V D V' base b D' who') : Rows2 V V' := ⟨fun _ _ _ x => x.moved R h, fun _ _ _ _ x => x.moved R h⟩
/-- Choices that were handed in. -/
def CoA (w : World) (p : Option Addr) (xs : List Int) : Prop := ∀ j x, xs[j]? = some x → x ≤ 9223372036854775807 ∧ ∃ g o, p = some ⟨g, o, none⟩ ∧ w.cell? ⟨g, o + j, none⟩ = some (.int .i64 x)
theorem restart_x (w V : World) {r : Int} {D : DS} {i : Nat} {Q : List UInt8 → List UInt8 → Prop} (h : Dw w V r D i Q) (hi : i ≤ 20000) (pc : Option Addr) (pcap : Nat) (xs : List Int) (hX : CoA w pc xs) :
    Calls Try.prog 32 #[.pointer (some ⟨w.heap.size + 1, 0, none⟩), .slice pc xs.length pcap] V fun e w' => e = .returned (.int .i64 0) ∧ ∃ D', Cl w w' r D' (i + 1) ∧ D'.fuse = 0 ∧ Q (seenOf D' nmD) (seenOf D' nmJ) ∧ Rows2 V w' := by
  obtain ⟨who, R⟩ := h.rep
  refine (restart_moves V w.heap.size (w.heap.size + 1) D who R (h.jx.sane hi) h.jx.uniq h.down (by have := h.jx.starts; omega) pc pcap xs (fun j => (xs[j]?).getD 0) (fun _ => rfl) (fun j x hx => ?_)).mono ?_
  · obtain ⟨h1, g, o, e, hc⟩ := hX j x hx
    have hg : g < w.heap.size := World.block_lt_of_cell? w _ hc
    refine ⟨h1, g, o, e, Nat.lt_of_lt_of_le hg h.bel.size, fun hf => ?_, below_cell h.bel hc⟩
    have := (R.foot hf).1
    omega
  · rintro e w' ⟨rfl, D', who', hp, hR, hm⟩
    have hrm : RM V D w' w.heap.size (w.heap.size + 1) D' who' := ⟨hp, hm⟩
    refine ⟨rfl, D', ⟨⟨who', hp⟩, restc_ji h.jx hR hp, h.bel.trans (hm.below R), hR.chs⟩, hR.fuse, ?_, Rows2.moved R hrm⟩
    rw [restc_seen h.jx hR, restc_seen h.jx hR]
    exact h.safe _ _ (surv_kept (chs := D.chs) D.chs.length 0 (Nat.zero_add _)) (surv_kept (chs := D.chs) D.chs.length 0 (Nat.zero_add _))
end Go.Proofs.Ytfcgjedanhmpiaa

namespace Go.Proofs.Ytfcgjedanhmpiaa
open Go.ChangeShapes Go.WideShapes Go.ChangeAt Go.RowKit
open Go.ChangeMaps (setBlock)
set_option linter.unusedVariables false

/-- What is kept aside of a database. -/
structure Gd (db : List UInt8) (old m : Nat) (tl : List Nat) (T : Nat → Nat) (P : Nat → List UInt8) : Prop where
  hdb : db.length = 256 * old
  ho : old ≤ 15
  hm : m ≤ 15
  rise : Rise old m T
  hP : ∀ k, k < m → P k = pgL db (T k)
  hT : ∀ k, k < m → T k ∈ tl
  htl : ∀ p ∈ tl, ∃ k, k < m ∧ T k = p
theorem Gd.len {db : List UInt8} {old m : Nat} {tl : List Nat} {T : Nat → Nat} {P : Nat → List UInt8} (g : Gd db old m tl T P) (k : Nat) (hk : k < m) : (P k).length = 256 := by
  have := g.rise.low k hk
  have := g.hdb
  rw [g.hP k hk]; exact pgL_length (by omega) (by omega)
structure Rx (w V w' : World) (r : Int) (D : DS) (i : Nat) (db new : List UInt8) (old m : Nat) (tl : List Nat) (T : Nat → Nat) (P : Nat → List UInt8) (x : Int) : Prop where
  rows : Rows2 V w'
  how : (x = 0 ∧ ∃ D' i', Cl w w' r D' i' ∧ i' ≤ i + 100 ∧ Cd (seenOf D' nmJ) ∧ (seenOf D' nmD = db ∨ seenOf D' nmD = new)) ∨ (x = 7 ∧ D.fuse ≠ 0 ∧ ∃ D' i', Dw w w' r D' i' (Good db new old m tl T P) ∧ i' ≤ i + 100)
theorem rec_x (w V : World) {r : Int} (hr : 20000 ≤ r) {D : DS} {i : Nat} (h : Cl w V r D i) (hi : i ≤ 15000) {db new : List UInt8} {old m : Nat} {tl : List Nat} {T : Nat → Nat} {P : Nat → List UInt8} (g : Gd db old m tl T P) (hg : Good db new old m tl T P (seenOf D nmD) (seenOf D nmJ)) :
    ∃ (bb : Bool) (x : Int), (x = 0 ∨ x = 7 ∧ D.fuse ≠ 0) ∧ Calls Try.prog 7 #[.pointer (some ⟨w.heap.size + 1, 0, none⟩)] V fun e w' => e = .returned (.tuple #[.bool bb, .int .i64 x]) ∧ Rx w V w' r D i db new old m tl T P x := by
  obtain ⟨who, R⟩ := h.rep
  have cold : Cd (seenOf D nmJ) → (seenOf D nmD = db ∨ seenOf D nmD = new) → ∃ (bb : Bool) (x : Int), (x = 0 ∨ x = 7 ∧ D.fuse ≠ 0) ∧ Calls Try.prog 7 #[.pointer (some ⟨w.heap.size + 1, 0, none⟩)] V fun e w' => e = .returned (.tuple #[.bool bb, .int .i64 x]) ∧ Rx w V w' r D i db new old m tl T P x := fun hc hd => by
    refine ⟨false, 0, .inl rfl, (recover_cold V _ _ D who R h.ji hc.hd.1).mono ?_⟩
    rintro e w' ⟨rfl, hg⟩
    exact ⟨rfl, Rows2.grown hg, .inl ⟨rfl, D, i, h.grown hg, by omega, hc, hd⟩⟩
  rcases hg with ⟨hc, hd⟩ | ⟨⟨hs, hrec⟩, hI⟩ | ⟨hc, hd⟩
  · exact cold hc (.inl hd)
  · have hb : m + 1 < 4294967296 ∧ old < 4294967296 := by have := g.hm; have := g.ho; omega
    have hhd := hs.hd hb.1 hb.2 (by omega) (by omega)
    have hH : Hotw (seenOf D nmJ) old m T P := ⟨hhd, hrec.recs, hrec.len⟩
    have hcx : 256 * old ≤ (seenOf D nmD).length ∨ ∃ j, j < m ∧ T j = old := by
      rcases Nat.eq_zero_or_pos old with e | e
      · exact .inl (by omega)
      · by_cases c : old ∈ tl
        · exact .inr (g.htl old c)
        · exact .inl (hI old e (Nat.le_refl _) c).1
    have hcs : (psOf D).cs = [] := h.clean
    have hsee : (psOf D).see = seenOf D := h.ji.toJX.see
    have hbr := back_run (db := db) (new := new) (X := seenOf D nmD) (l := seenOf D nmJ) hb g.hdb (fun k hk => ⟨g.hP k hk, g.len k hk⟩) (fun k hk => ⟨(g.rise.low k hk).1, g.hT k hk⟩) g.htl (s := psOf D) hcs (ps_see h.ji.toJX hcs nmD) (ps_see h.ji.toJX hcs nmJ) hI hs hrec
    rw [hsee] at hbr
    have hm := g.hm
    have ho := g.ho
    by_cases hf : D.fuse = 0 ∨ ((2 + (m + 4) : Nat) : Int) < D.fuse
    · refine ⟨true, 0, .inl rfl, recover_hot0 V _ _ D who R h.ji (by rw [hhd.1]; omega) (fun w' => Rx w V w' r D i db new old m tl T P 0) (fun U hU hrm => ?_)⟩
      refine (takeBack_ok U _ _ D who (R.keep hU) hr h.ji old m T P hH g.len g.rise (by omega) (by omega) hcx (by omega) hf).mono ?_
      rintro e w' ⟨rfl, D', who', hd⟩
      have hc2 : D'.chs = [] := by
        have := congrArg PS.cs hd.ps
        rw [hbr.2.1] at this
        exact this
      have hk : ∀ nm, seenOf D' nm = (psOf D').K nm := fun nm => (ps_clean hd.ji.toJX hc2 nm).symm
      have hrm2 := hrm.trans hd.rm
      refine ⟨rfl, Rows2.moved R hrm2, .inl ⟨rfl, D', _, ⟨⟨who', hd.rm.rep⟩, hd.ji, h.bel.trans (hrm2.mv.below R), hc2⟩, by omega, ?_, .inl ?_⟩⟩
      · rw [hk, hd.ps]; exact hbr.2.2.1
      · rw [hk, hd.ps]; exact hbr.2.2.2
    · have h0 := h.ji.fuse.1
      refine ⟨false, 7, .inr ⟨rfl, by omega⟩, recover_hot7 V _ _ D who R h.ji (by rw [hhd.1]; omega) (fun w' => Rx w V w' r D i db new old m tl T P 7) (fun U hU hrm => ?_)⟩
      refine (takeBack_cr U _ _ D who (R.keep hU) hr h.ji old m T P hH g.len g.rise (by omega) (by omega) hcx (by omega) hf hbr.1).mono ?_
      rintro e w' ⟨rfl, D', who', hd⟩
      have hrm2 := hrm.trans hd.rm
      exact ⟨rfl, Rows2.moved R hrm2, .inr ⟨rfl, by omega, D', _, ⟨⟨who', hd.rm.rep⟩, hd.jx, h.bel.trans (hrm2.mv.below R), hd.down, hd.safe⟩, by omega⟩⟩
  · exact cold hc (.inr hd)
theorem Cl.good {w V : World} {r : Int} {D : DS} {i : Nat} {Q : List UInt8 → List UInt8 → Prop} (h : Cl w V r D i) (hq : Q (seenOf D nmD) (seenOf D nmJ)) : Safe Q (psOf D) := fun XD XJ hD hJ => by
  have hcs : (psOf D).cs = [] := h.clean
  have d1 : XD = (psOf D).K nmD := Surv.other (fun c hc => by rw [hcs] at hc; cases hc) hD
  have d2 : XJ = (psOf D).K nmJ := Surv.other (fun c hc => by rw [hcs] at hc; cases hc) hJ
  rw [d1, d2, ps_see h.ji.toJX hcs, ps_see h.ji.toJX hcs]; exact hq
theorem down_cl (w V : World) {r : Int} {D : DS} {i : Nat} (h : Cl w V r D i) : Calls Try.prog 17 #[.pointer (some ⟨w.heap.size + 1, 0, none⟩)] V fun e w' => e = .returned (.bool false) ∧ V = w' := by
  obtain ⟨who, R⟩ := h.rep
  have := down_any V _ _ D who R
  rw [h.ji.down] at this
  exact this
theorem down_dw (w V : World) {r : Int} {D : DS} {i : Nat} {Q : List UInt8 → List UInt8 → Prop} (h : Dw w V r D i Q) : Calls Try.prog 17 #[.pointer (some ⟨w.heap.size + 1, 0, none⟩)] V fun e w' => e = .returned (.bool true) ∧ V = w' := by
  obtain ⟨who, R⟩ := h.rep
  have := down_any V _ _ D who R
  rw [h.down] at this
  exact this
theorem JX.fused {r : Int} {D : DS} {i : Nat} (h : JX r D i) {n : Int} (hn : n ≤ 9223372036854775807) : JX r { D with fuse := max n 0 } i := { h with fuse := by show 0 ≤ max n 0 ∧ max n 0 ≤ 9223372036854775807; omega }
theorem fuse_cl (w V : World) {r : Int} {D : DS} {i : Nat} (h : Cl w V r D i) (n : Int) (hn : n ≤ 9223372036854775807) : Calls Try.prog 16 #[.pointer (some ⟨w.heap.size + 1, 0, none⟩), .int .i64 n] V fun e w' => e = .returned (.tuple #[]) ∧ (∃ D', Cl w w' r D' i ∧ D'.fuse = max n 0 ∧ seenOf D' = seenOf D) ∧ Rows2 V w' := by
  obtain ⟨who, R⟩ := h.rep
  refine (crashIn_moves V _ _ D who R n).mono ?_
  rintro e w' ⟨rfl, hm⟩
  exact ⟨rfl, ⟨_, ⟨⟨who, hm.rep⟩, ⟨h.ji.toJX.fused hn, h.ji.down⟩, h.bel.trans (hm.mv.below R), h.clean⟩, rfl, rfl⟩, Rows2.moved R hm⟩
theorem fuse_dw (w V : World) {r : Int} {D : DS} {i : Nat} {Q : List UInt8 → List UInt8 → Prop} (h : Dw w V r D i Q) (n : Int) (hn : n ≤ 9223372036854775807) : Calls Try.prog 16 #[.pointer (some ⟨w.heap.size + 1, 0, none⟩), .int .i64 n] V fun e w' => e = .returned (.tuple #[]) ∧ (∃ D', Dw w w' r D' i Q) ∧ Rows2 V w' := by
  obtain ⟨who, R⟩ := h.rep
  refine (crashIn_moves V _ _ D who R n).mono ?_
  rintro e w' ⟨rfl, hm⟩
  exact ⟨rfl, ⟨_, ⟨⟨who, hm.rep⟩, h.jx.fused hn, h.bel.trans (hm.mv.below R), h.down, h.safe⟩⟩, Rows2.moved R hm⟩
theorem crash_cl (w V : World) {r : Int} {D : DS} {i : Nat} {Q : List UInt8 → List UInt8 → Prop} (h : Cl w V r D i) (hq : Q (seenOf D nmD) (seenOf D nmJ)) : Calls Try.prog 18 #[.pointer (some ⟨w.heap.size + 1, 0, none⟩)] V fun e w' => e = .returned (.tuple #[]) ∧ (∃ D', Dw w w' r D' i Q) ∧ Rows2 V w' := by
  obtain ⟨who, R⟩ := h.rep
  refine (crash_moves V _ _ D who R).mono ?_
  rintro e w' ⟨rfl, hm⟩
  exact ⟨rfl, ⟨_, ⟨⟨who, hm.rep⟩, { h.ji.toJX with }, h.bel.trans (hm.mv.below R), rfl, h.good hq⟩⟩, Rows2.moved R hm⟩
/-- Crashes that were handed in. -/
def WaA (w : World) (p : Option Addr) (n : Nat) (av : Nat → Int) (pc : Nat → Option Addr) (xs : Nat → List Int) (cc : Nat → Nat) : Prop := 0 < n → ∃ b o, p = some ⟨b, o, none⟩ ∧ ∀ i, i < n → av i ≤ 9223372036854775807 ∧ w.cell? ⟨b, o + i * 2, none⟩ = some (.int .i64 (av i)) ∧ w.cell? ⟨b, o + i * 2 + 1, none⟩ = some (.slice (pc i) (xs i).length (cc i)) ∧ CoA w (pc i) (xs i)
/-- Up or down, on the way back. -/
def Stt (w V : World) (r : Int) (k : Nat) (Q : List UInt8 → List UInt8 → Prop) : Prop := ∃ D, (Cl w V r D k ∧ Q (seenOf D nmD) (seenOf D nmJ)) ∨ Dw w V r D k Q
end Go.Proofs.Ytfcgjedanhmpiaa
