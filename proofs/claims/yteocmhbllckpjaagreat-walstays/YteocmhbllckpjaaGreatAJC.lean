/- The journal's steps, as function values: made, kept in memory beside a disk, and called. -/
/- The journal's steps made, one behind the other. -/
import Derived.Test.YteocmhbllckpjaaGreatAJA
namespace Go.Proofs.YteocmhbllckpjaaGreat
open Go.ChangeShapes Go.WideShapes Go.ChangeAt Go.RowKit
set_option linter.unusedVariables false

/-- No type of a disk's own blocks. -/
def OkT (t : TypeId) : Prop := t ≠ 76 ∧ t ≠ 112 ∧ t ≠ 119 ∧ t ≠ 5
theorem own_type {w : World} {base e size n : Nat} {v : Value} {xs : List Value} (h : w.ownsRow base e size v n xs) {k : Nat} (hk : v.ownBlock = some k) {c : Array Value} {t : TypeId} (hb : Blk w k c t) : t = e := by
  rcases h.2 with ⟨rfl, _⟩ | ⟨g, cap, cur, rfl, _, hg, _⟩
  · cases hk
  · have e1 : g = k := by simpa [Value.ownBlock] using hk
    subst e1
    have : some (Obj.cells cur e (0, 0)) = some (Obj.cells c t (0, 0)) := hg.symm.trans hb
    injection this with h1
    injection h1 with _ h2 _
    exact h2.symm
theorem Blk.type_eq {w : World} {k : Nat} {c c2 : Array Value} {t t2 : TypeId} (h1 : Blk w k c t) (h2 : Blk w k c2 t2) : t = t2 := by
  have : some (Obj.cells c t (0, 0)) = some (Obj.cells c2 t2 (0, 0)) := h1.symm.trans h2
  injection this with h1
  injection h1
theorem Rep.notFoot {w : World} {base b : Nat} {D : DS} {who : Nat → Nat} (R : Rep w base b D who) {k : Nat} {c : Array Value} {t : TypeId} (hb : Blk w k c t) (ht : OkT t) : ¬ Foot b D k := by
  obtain ⟨h1, h2, h3, h4⟩ := ht
  rintro (rfl | rfl | h | ⟨f, hf, rfl | h | h⟩)
  · exact h1 (hb.type_eq R.blk)
  · have : some (Obj.cells c t (0, 0)) = some (Obj.map _ _) := hb.symm.trans R.map
    cases this
  · exact h2 (own_type R.ochs h hb)
  · exact h3 (hb.type_eq (R.ent f hf))
  · exact h4 (own_type (R.osv f hf) h hb)
  · exact h4 (own_type (R.okv f hf) h hb)
/-- What is no disk's is left alone. -/
theorem RM.blk {w w' : World} {base b : Nat} {D D' : DS} {who who' : Nat → Nat} (h : RM w D w' base b D' who') (R : Rep w base b D who) {k : Nat} {c : Array Value} {t : TypeId} (hb : Blk w k c t) (ht : OkT t) : Blk w' k c t :=
  (h.mv.keep k hb.lt (R.notFoot hb ht)).trans hb

/-- A step. -/
inductive Stp where
  | put (nm : ByteArray) (at_ : Nat) (d : ByteArray)
  | cut (nm : ByteArray) (n : Nat)
  | sync (nm : ByteArray)
def Rc (w : World) (k b : Nat) : Prop := ∃ tx la, Blk w k #[.pointer (some ⟨b, 0, none⟩), .string tx, .int .i64 la] 93
def SV (w : World) (b : Nat) : Stp → Value → Prop
  | .put nm at_ d, v => ∃ k1 k2 k3 k4, v = .func (.func 124) #[] #[.pointer (some ⟨k1, 0, none⟩), .pointer (some ⟨k2, 0, none⟩), .pointer (some ⟨k3, 0, none⟩), .pointer (some ⟨k4, 0, none⟩)] ∧ Rc w k1 b ∧ Blk w k2 #[.string nm] 9 ∧ Blk w k3 #[.int .i64 (at_ : Int)] 3 ∧ Blk w k4 #[.string d] 9
  | .cut nm n, v => ∃ k1 k2 k3, v = .func (.func 132) #[] #[.pointer (some ⟨k1, 0, none⟩), .pointer (some ⟨k2, 0, none⟩), .pointer (some ⟨k3, 0, none⟩)] ∧ Rc w k1 b ∧ Blk w k2 #[.string nm] 9 ∧ Blk w k3 #[.int .i64 (n : Int)] 3
  | .sync nm, v => ∃ k1 k2, v = .func (.func 126) #[] #[.pointer (some ⟨k1, 0, none⟩), .pointer (some ⟨k2, 0, none⟩)] ∧ Rc w k1 b ∧ Blk w k2 #[.string nm] 9
theorem SV.map {w w' : World} {b : Nat} {s : Stp} {v : Value} (h : SV w b s v) (hk : ∀ k c t, t = 93 ∨ t = 9 ∨ t = 3 → Blk w k c t → Blk w' k c t) : SV w' b s v := by
  cases s with
  | put nm at_ d =>
    obtain ⟨k1, k2, k3, k4, e, ⟨tx, la, h1⟩, h2, h3, h4⟩ := h
    exact ⟨k1, k2, k3, k4, e, ⟨tx, la, hk _ _ _ (.inl rfl) h1⟩, hk _ _ _ (.inr (.inl rfl)) h2, hk _ _ _ (.inr (.inr rfl)) h3, hk _ _ _ (.inr (.inl rfl)) h4⟩
  | cut nm n =>
    obtain ⟨k1, k2, k3, e, ⟨tx, la, h1⟩, h2, h3⟩ := h
    exact ⟨k1, k2, k3, e, ⟨tx, la, hk _ _ _ (.inl rfl) h1⟩, hk _ _ _ (.inr (.inl rfl)) h2, hk _ _ _ (.inr (.inr rfl)) h3⟩
  | sync nm =>
    obtain ⟨k1, k2, e, ⟨tx, la, h1⟩, h2⟩ := h
    exact ⟨k1, k2, e, ⟨tx, la, hk _ _ _ (.inl rfl) h1⟩, hk _ _ _ (.inr (.inl rfl)) h2⟩
theorem SV.only {w w' : World} {b : Nat} {s : Stp} {v : Value} {S : List Nat} (h : SV w b s v) (ho : Only S w w') (hS : ∀ k ∈ S, ∀ c t, Blk w k c t → t ≠ 93 ∧ t ≠ 9 ∧ t ≠ 3) : SV w' b s v :=
  h.map (fun k c t ht hb => ho.blk hb (fun hm => by obtain ⟨n1, n2, n3⟩ := hS k hm c t hb; rcases ht with h | h | h; exact n1 h; exact n2 h; exact n3 h))
theorem SV.grown {w w' : World} {b : Nat} {s : Stp} {v : Value} (h : SV w b s v) (hg : w.grownBy w' none) : SV w' b s v :=
  h.only (S := []) ((Only.of_grown hg).mono (by simp)) (by simp)
theorem SV.moved {w w' : World} {base b : Nat} {D D' : DS} {who who' : Nat → Nat} {s : Stp} {v : Value} (h : SV w b s v) (R : Rep w base b D who) (hm : RM w D w' base b D' who') : SV w' b s v :=
  h.map (fun k c t ht hb => hm.blk R hb (by unfold OkT; rcases ht with rfl | rfl | rfl <;> decide))

theorem blk_next (w : World) (c c2 : Array Value) (t t2 : TypeId) : Blk ((w.alloc (.cells c t)).alloc (.cells c2 t2)) w.heap.size c t ∧ Blk ((w.alloc (.cells c t)).alloc (.cells c2 t2)) (w.heap.size + 1) c2 t2 := by
  refine ⟨(Below.heap_alloc _ _ _ (by simp)).trans (alloc_new _ _), ?_⟩
  have := alloc_new (w.alloc (.cells c t)) (.cells c2 t2)
  rw [show (w.alloc (.cells c t)).heap.size = w.heap.size + 1 by simp] at this
  exact this
theorem put_c (w : World) (b : Nat) (tx : ByteArray) (la : Int) (nm d : ByteArray) (at_ : Nat) : Calls Tryz.prog 89 #[.agg #[.pointer (some ⟨b, 0, none⟩), .string tx, .int .i64 la], .string nm, .int .i64 at_, .string d] w fun e w' => (∃ v, e = .returned v ∧ SV w' b (.put nm at_ d) v) ∧ w.grownBy w' none := by
  have HG : Hid (w.grownBy ((((w.alloc (.cells #[.pointer (some ⟨b, 0, none⟩), .string tx, .int .i64 la] 93)).alloc (.cells #[.string nm] 9)).alloc (.cells #[.int .i64 (at_ : Int)] 3)).alloc (.cells #[.string d] 9)) none) := grown_trans' (grown_trans' (grown_trans' (World.grownBy_alloc _ _ _) (World.grownBy_alloc _ _ _)) (World.grownBy_alloc _ _ _)) (World.grownBy_alloc _ _ _)
  have B1 := hideJ ((Below.heap_alloc _ (.cells #[.string d] 9) _ (by simp <;> omega)).trans ((Below.heap_alloc _ (.cells #[.int .i64 (at_ : Int)] 3) _ (by simp <;> omega)).trans (blk_next w #[.pointer (some ⟨b, 0, none⟩), .string tx, .int .i64 la] #[.string nm] 93 9).1))
  have B2 := hideJ ((Below.heap_alloc _ (.cells #[.string d] 9) _ (by simp <;> omega)).trans ((Below.heap_alloc _ (.cells #[.int .i64 (at_ : Int)] 3) _ (by simp)).trans (blk_next w #[.pointer (some ⟨b, 0, none⟩), .string tx, .int .i64 la] #[.string nm] 93 9).2))
  have B34 := hideJ (blk_next ((w.alloc (.cells #[.pointer (some ⟨b, 0, none⟩), .string tx, .int .i64 la] 93)).alloc (.cells #[.string nm] 9)) #[.int .i64 (at_ : Int)] #[.string d] 3 9)
  rw [show ((w.alloc (.cells #[.pointer (some ⟨b, 0, none⟩), .string tx, .int .i64 la] 93)).alloc (.cells #[.string nm] 9)).heap.size = w.heap.size + 2 by simp] at B34
  go_enter Tryz.func89, Tryz.ntmps89
  go_wp2
  go_ret
  exact ⟨⟨_, rfl, w.heap.size, w.heap.size + 1, w.heap.size + 2, w.heap.size + 3, rfl, ⟨_, _, B1.out⟩, B2.out, B34.out.1, B34.out.2⟩, HG.out⟩
theorem cut_c (w : World) (b : Nat) (tx : ByteArray) (la : Int) (nm : ByteArray) (n : Nat) : Calls Tryz.prog 96 #[.agg #[.pointer (some ⟨b, 0, none⟩), .string tx, .int .i64 la], .string nm, .int .i64 n] w fun e w' => (∃ v, e = .returned v ∧ SV w' b (.cut nm n) v) ∧ w.grownBy w' none := by
  have HG : Hid (w.grownBy (((w.alloc (.cells #[.pointer (some ⟨b, 0, none⟩), .string tx, .int .i64 la] 93)).alloc (.cells #[.string nm] 9)).alloc (.cells #[.int .i64 (n : Int)] 3)) none) := grown_trans' (grown_trans' (World.grownBy_alloc _ _ _) (World.grownBy_alloc _ _ _)) (World.grownBy_alloc _ _ _)
  have B1 := hideJ ((Below.heap_alloc _ (.cells #[.int .i64 (n : Int)] 3) _ (by simp <;> omega)).trans (blk_next w #[.pointer (some ⟨b, 0, none⟩), .string tx, .int .i64 la] #[.string nm] 93 9).1)
  have B2 := hideJ ((Below.heap_alloc _ (.cells #[.int .i64 (n : Int)] 3) _ (by simp)).trans (blk_next w #[.pointer (some ⟨b, 0, none⟩), .string tx, .int .i64 la] #[.string nm] 93 9).2)
  have B3 := hideJ (alloc_new ((w.alloc (.cells #[.pointer (some ⟨b, 0, none⟩), .string tx, .int .i64 la] 93)).alloc (.cells #[.string nm] 9)) (.cells #[.int .i64 (n : Int)] 3))
  rw [show ((w.alloc (.cells #[.pointer (some ⟨b, 0, none⟩), .string tx, .int .i64 la] 93)).alloc (.cells #[.string nm] 9)).heap.size = w.heap.size + 2 by simp] at B3
  go_enter Tryz.func96, Tryz.ntmps96
  go_wp2
  go_ret
  exact ⟨⟨_, rfl, w.heap.size, w.heap.size + 1, w.heap.size + 2, rfl, ⟨_, _, B1.out⟩, B2.out, B3.out⟩, HG.out⟩
theorem sync_c (w : World) (b : Nat) (tx : ByteArray) (la : Int) (nm : ByteArray) : Calls Tryz.prog 91 #[.agg #[.pointer (some ⟨b, 0, none⟩), .string tx, .int .i64 la], .string nm] w fun e w' => (∃ v, e = .returned v ∧ SV w' b (.sync nm) v) ∧ w.grownBy w' none := by
  have HG : Hid (w.grownBy ((w.alloc (.cells #[.pointer (some ⟨b, 0, none⟩), .string tx, .int .i64 la] 93)).alloc (.cells #[.string nm] 9)) none) := grown_trans' (World.grownBy_alloc _ _ _) (World.grownBy_alloc _ _ _)
  have B1 := hideJ (blk_next w #[.pointer (some ⟨b, 0, none⟩), .string tx, .int .i64 la] #[.string nm] 93 9)
  go_enter Tryz.func91, Tryz.ntmps91
  go_wp2
  go_ret
  exact ⟨⟨_, rfl, w.heap.size, w.heap.size + 1, rfl, ⟨_, _, B1.out.1⟩, B1.out.2⟩, HG.out⟩

/-- What is seen, behind a step. -/
abbrev Vw := ByteArray → List UInt8
def Vw.set (f : Vw) (nm : ByteArray) (l : List UInt8) : Vw := fun n => if n = nm then l else f n
def Stp.on (f : Vw) : Stp → Vw
  | .put nm at_ d => f.set nm (wseen (f nm) at_ d.data.toList)
  | .cut nm n => f.set nm (rsz (f nm) n)
  | .sync nm => f
def Vw.tot (f : Vw) : Nat := (f nmD).length + (f nmJ).length
/-- A step that may be: whether the disk has room for it is told apart. -/
def Stp.ok (f : Vw) : Stp → Prop
  | .put nm at_ d => (nm = nmD ∨ nm = nmJ) ∧ 0 < d.size ∧ d.size ≤ 2000 ∧ at_ + d.size ≤ 60000
  | .cut nm n => (nm = nmD ∨ nm = nmJ) ∧ n ≤ 60000 ∧ n ≤ (f nm).length
  | .sync nm => True
def Stp.fits (r : Int) (f : Vw) : Stp → Prop
  | .put nm at_ d => at_ + d.size ≤ (f nm).length ∨ (f.tot : Int) + ((at_ + d.size : Nat) - ((f nm).length : Int)) ≤ r
  | .cut nm n => True
  | .sync nm => True
theorem JI.total {r : Int} {D : DS} {i : Nat} (h : JI r D i) : Go.Proofs.YteocmhbllckpjaaGreat.total D = Vw.tot (seenOf D) := by
  have hd : ∀ x ∈ D.fs, ∀ y ∈ D.fs, x.name = y.name → x = y := fun x hx y hy e => by
    have h1 := h.uniq x hx
    rw [e, h.uniq y hy] at h1
    exact (Option.some.inj h1).symm
  unfold Go.Proofs.YteocmhbllckpjaaGreat.total tot Vw.tot seenOf
  have h1 := h.nodup
  have h2 := h.two
  have hDJ : (nmD == nmJ) = false := name_ne (by decide)
  have hJD : (nmJ == nmD) = false := name_ne (by decide)
  generalize D.fs = fs at hd h1 h2
  match fs, hd, h1, h2 with
  | [], _, _, _ => simp [look]
  | [x], _, _, h2 =>
    rcases h2 x (by simp) with e | e <;> simp [look, e, hDJ, hJD, bytes_beq]
  | [x, y], hd, h1, h2 =>
    have nxy : x ≠ y := fun e => by rw [e] at h1; simp at h1
    rcases h2 x (by simp) with ex | ex <;> rcases h2 y (by simp) with ey | ey
    · exact absurd (hd x (by simp) y (by simp) (ex.trans ey.symm)) nxy
    · simp [look, ex, ey, hJD, bytes_beq]
    · simp [look, ex, ey, hDJ, bytes_beq]; omega
    · exact absurd (hd x (by simp) y (by simp) (ex.trans ey.symm)) nxy
  | x :: y :: z :: r, hd, h1, h2 =>
    exfalso
    have nxy : x ≠ y := fun e => by rw [e] at h1; simp at h1
    have nxz : x ≠ z := fun e => by rw [e] at h1; simp at h1
    have nyz : y ≠ z := fun e => by rw [e] at h1; simp at h1
    rcases h2 x (by simp) with ex | ex <;> rcases h2 y (by simp) with ey | ey <;> rcases h2 z (by simp) with ez | ez
    all_goals first
      | exact nxy (hd x (by simp) y (by simp) (ex.trans ey.symm))
      | exact nxz (hd x (by simp) z (by simp) (ex.trans ez.symm))
      | exact nyz (hd y (by simp) z (by simp) (ey.trans ez.symm))
end Go.Proofs.YteocmhbllckpjaaGreat

namespace Go.Proofs.YteocmhbllckpjaaGreat
open Go.ChangeShapes Go.WideShapes Go.ChangeAt Go.RowKit
set_option linter.unusedVariables false

/-- A disk's two files and its changes, plain. -/
structure PS where
  K : Vw
  cs : List Ch
def PS.see (s : PS) : Vw := fun nm => keepF nm (s.K nm) s.cs
def Stp.dn (s : PS) : Stp → PS
  | .put nm at_ d => { s with cs := s.cs ++ wchs nm (s.see nm) at_ d.data.toList }
  | .cut nm n => { s with cs := s.cs ++ if n = (s.see nm).length then [] else [cutC nm n] }
  | .sync nm => { K := s.K.set nm (s.see nm), cs := others nm s.cs }
def Stp.cr (s : PS) : Stp → PS
  | .put nm at_ d => (Stp.put nm at_ d).dn s
  | .cut nm n => (Stp.cut nm n).dn s
  | .sync nm => s
def pst (s : PS) (S : Nat → Stp) : Nat → PS
  | 0 => s
  | k + 1 => (S k).dn (pst s S k)
def psOf (D : DS) : PS := ⟨keptOf D, D.chs⟩
theorem JX.see {r : Int} {D : DS} {i : Nat} (h : JX r D i) : (psOf D).see = seenOf D := funext h.full
def dec (f : Int) : Int := if f = 0 then 0 else f - 1
/-- Behind a step: it was made; it crashed; or there was no room for it. -/
def Did (r : Int) (w : World) (base b : Nat) (D : DS) (i : Nat) (s : Stp) (e : Int) (w' : World) : Prop :=
  (s.fits r (seenOf D) ∧ D.fuse ≠ 1 ∧ e = 0 ∧ ∃ D' who', RM w D w' base b D' who' ∧ JI r D' (i + 1) ∧ seenOf D' = s.on (seenOf D) ∧ psOf D' = s.dn (psOf D) ∧ D'.fuse = dec D.fuse) ∨
  (s.fits r (seenOf D) ∧ D.fuse = 1 ∧ e = 7 ∧ ∃ D' who', RM w D w' base b D' who' ∧ JX r D' (i + 1) ∧ D'.down = true ∧ psOf D' = s.cr (psOf D)) ∨ (¬ s.fits r (seenOf D) ∧ e = 5 ∧ w.grownBy w' none)
theorem Chg.did {r : Int} {w w' : World} {base b : Nat} {D D' : DS} {who' : Nat → Nat} {i : Nat} {s : Stp} {nm : ByteArray} {l : List UInt8} {cs : List Ch} (hf : s.fits r (seenOf D)) (hdn : D.down = false) (hR : RM w D w' base b D' who') (hJ : JX r D' (i + 1)) (hC : Chg D nm l D' cs)
    (hon : s.on (seenOf D) = Vw.set (seenOf D) nm l) (hd : s.dn (psOf D) = ⟨keptOf D, D.chs ++ cs⟩) (hc : s.cr (psOf D) = ⟨keptOf D, D.chs ++ cs⟩) : Did r w base b D i s (ans D) w' := by
  have hp : psOf D' = ⟨keptOf D, D.chs ++ cs⟩ := by unfold psOf; rw [funext hC.kept, hC.chs]
  have hs : seenOf D' = Vw.set (seenOf D) nm l := by funext nm'; rw [hC.seen]; rfl
  by_cases f1 : D.fuse = 1
  · refine .inr (.inl ⟨hf, f1, by unfold ans; rw [if_pos f1], D', who', hR, hJ, ?_, by rw [hp, hc]⟩)
    rw [hC.down]
    show (D.down || D.fuse == 1) = true
    rw [f1]; simp
  · refine .inl ⟨hf, f1, by unfold ans; rw [if_neg f1], D', who', hR, ⟨hJ, ?_⟩, by rw [hs, hon], by rw [hp, hd], hC.fuse⟩
    rw [hC.down]; exact down_step hdn f1

theorem Did.yes {r : Int} {w : World} {base b : Nat} {D : DS} {i : Nat} {s : Stp} {f : Nat} {args : Array Value} (h : Calls Tryz.prog f args w fun e w' => ∃ x, e = .returned (.int .i64 x) ∧ Did r w base b D i s x w') (hf : s.fits r (seenOf D)) (h1 : D.fuse ≠ 1) :
    Calls Tryz.prog f args w fun e w' => e = .returned (.int .i64 0) ∧ ∃ D' who', RM w D w' base b D' who' ∧ JI r D' (i + 1) ∧ seenOf D' = s.on (seenOf D) ∧ psOf D' = s.dn (psOf D) ∧ D'.fuse = dec D.fuse := by
  refine h.mono ?_
  rintro e w' ⟨x, rfl, ⟨_, _, rfl, h2⟩ | ⟨_, h2, _⟩ | ⟨h2, _⟩⟩
  · exact ⟨rfl, h2⟩
  · exact absurd h2 h1
  · exact absurd hf h2
theorem Did.cr {r : Int} {w : World} {base b : Nat} {D : DS} {i : Nat} {s : Stp} {f : Nat} {args : Array Value} (h : Calls Tryz.prog f args w fun e w' => ∃ x, e = .returned (.int .i64 x) ∧ Did r w base b D i s x w') (hf : s.fits r (seenOf D)) (h1 : D.fuse = 1) :
    Calls Tryz.prog f args w fun e w' => e = .returned (.int .i64 7) ∧ ∃ D' who', RM w D w' base b D' who' ∧ JX r D' (i + 1) ∧ D'.down = true ∧ psOf D' = s.cr (psOf D) := by
  refine h.mono ?_
  rintro e w' ⟨x, rfl, ⟨_, h2, _⟩ | ⟨_, _, rfl, h2⟩ | ⟨h2, _⟩⟩
  · exact absurd h1 h2
  · exact ⟨rfl, h2⟩
  · exact absurd hf h2
theorem Did.no {r : Int} {w : World} {base b : Nat} {D : DS} {i : Nat} {s : Stp} {f : Nat} {args : Array Value} (h : Calls Tryz.prog f args w fun e w' => ∃ x, e = .returned (.int .i64 x) ∧ Did r w base b D i s x w') (hf : ¬ s.fits r (seenOf D)) :
    Calls Tryz.prog f args w fun e w' => e = .returned (.int .i64 5) ∧ w.grownBy w' none := by
  refine h.mono ?_
  rintro e w' ⟨x, rfl, ⟨h1, _⟩ | ⟨h1, _⟩ | ⟨_, rfl, h2⟩⟩
  · exact absurd h1 hf
  · exact absurd h1 hf
  · exact ⟨rfl, h2⟩

set_option maxHeartbeats 1000000 in
theorem put_run (w : World) (base b : Nat) (D : DS) (who : Nat → Nat) (R : Rep w base b D who) {r : Int} {i : Nat} (h : JI r D i) (hi : i ≤ 20000) (nm d : ByteArray) (at_ : Nat) (hok : (Stp.put nm at_ d).ok (seenOf D)) (k1 k2 k3 k4 : Nat)
    (h1 : Rc w k1 b) (h2 : Blk w k2 #[.string nm] 9) (h3 : Blk w k3 #[.int .i64 (at_ : Int)] 3) (h4 : Blk w k4 #[.string d] 9) :
    Calls Tryz.prog 124 #[.pointer (some ⟨k1, 0, none⟩), .pointer (some ⟨k2, 0, none⟩), .pointer (some ⟨k3, 0, none⟩), .pointer (some ⟨k4, 0, none⟩)] w fun e w' => ∃ x, e = .returned (.int .i64 x) ∧ Did r w base b D i (.put nm at_ d) x w' := by
  obtain ⟨hnm, hs0, hs, hend⟩ := hok
  obtain ⟨tx, la, h1⟩ := h1
  have c11 := (h1.cell 1).trans (show _ = some (Value.string tx) from rfl)
  have c12 := (h1.cell 2).trans (show _ = some (Value.int .i64 la) from rfl)
  have c1 := (h1.cell 0).trans (show _ = some (Value.pointer (some ⟨b, 0, none⟩)) from rfl)
  have c2 := (h2.cell 0).trans (show _ = some (Value.string nm) from rfl)
  have c3 := (h3.cell 0).trans (show _ = some (Value.int .i64 (at_ : Int)) from rfl)
  have c4 := (h4.cell 0).trans (show _ = some (Value.string d) from rfl)
  have hfl := h.fl nm
  have htt := h.total
  by_cases hf : (Stp.put nm at_ d).fits r (seenOf D)
  · have hpd : (Stp.put nm at_ d).dn (psOf D) = ⟨keptOf D, D.chs ++ wchs nm (seenOf D nm) at_ d.data.toList⟩ := by
      show (⟨keptOf D, D.chs ++ wchs nm ((psOf D).see nm) at_ d.data.toList⟩ : PS) = _
      rw [h.toJX.see]
    have HW : Hid (∃ a : Int, (a = 0 ∨ a = 7) ∧ Calls Tryz.prog 35 #[.pointer (some ⟨b, 0, none⟩), .string nm, .int .i64 at_, .string d] w fun e w' => e = .returned (.int .i64 a) ∧ Did r w base b D i (.put nm at_ d) a w') := by
      refine ⟨ans D, by unfold ans; split <;> simp, ?_⟩
      refine (write_j w base b D who R h hi nm hnm d at_ hs0 hs hend (by
        have hf' : at_ + d.size ≤ (seenOf D nm).length ∨ (Vw.tot (seenOf D) : Int) + ((at_ + d.size : Nat) - ((seenOf D nm).length : Int)) ≤ r := hf
        rw [hfl, ← htt] at hf'
        exact hf')).mono ?_
      rintro e w' ⟨rfl, D', who', hR, hJ, hC⟩
      exact ⟨rfl, hC.did hf h.down hR hJ rfl hpd hpd⟩
    clear h1 h2 h3 h4 h R hf hfl htt hnm hs0 hs hend hpd
    obtain ⟨a, ha, hW⟩ := HW.out
    have HW2 := hideJ hW
    clear HW hW
    rcases ha with rfl | rfl
    · go_enter Tryz.func124, Tryz.ntmps124
      go_wp2_with (go_at_call 35; with_reducible refine Calls.mono HW2.out ?_; rintro e w4 ⟨rfl, hD⟩; have HD := hideJ hD; clear hD)
      go_ret
      exact ⟨0, rfl, HD.out⟩
    · go_enter Tryz.func124, Tryz.ntmps124
      go_wp2_with (go_at_call 35; with_reducible refine Calls.mono HW2.out ?_; rintro e w4 ⟨rfl, hD⟩; have HD := hideJ hD; clear hD)
      go_ret
      exact ⟨7, rfl, HD.out⟩
  · have HW := hideJ (write_full w base b D who R (h.fine hi) h.down nm d at_ hs0 (by omega) (by
      have hf' : ¬ (at_ + d.size ≤ (seenOf D nm).length ∨ (Vw.tot (seenOf D) : Int) + ((at_ + d.size : Nat) - ((seenOf D nm).length : Int)) ≤ r) := hf
      rw [hfl] at hf'
      omega) (by
      have hf' : ¬ (at_ + d.size ≤ (seenOf D nm).length ∨ (Vw.tot (seenOf D) : Int) + ((at_ + d.size : Nat) - ((seenOf D nm).length : Int)) ≤ r) := hf
      rw [hfl, ← htt] at hf'
      rw [h.room]
      omega))
    have HF := hideJ hf
    clear h1 h2 h3 h4 h R hf hfl htt hnm hs0 hs hend
    go_enter Tryz.func124, Tryz.ntmps124
    go_wp2_with (go_at_call 35; with_reducible refine Calls.mono HW.out ?_; rintro e w4 ⟨rfl, hg⟩; have HG := hideJ hg; clear hg)
    go_ret
    exact ⟨5, rfl, .inr (.inr ⟨HF.out, rfl, HG.out⟩)⟩
theorem cut_run (w : World) (base b : Nat) (D : DS) (who : Nat → Nat) (R : Rep w base b D who) {r : Int} {i : Nat} (h : JI r D i) (hi : i ≤ 20000) (nm : ByteArray) (n : Nat) (hok : (Stp.cut nm n).ok (seenOf D)) (k1 k2 k3 : Nat)
    (h1 : Rc w k1 b) (h2 : Blk w k2 #[.string nm] 9) (h3 : Blk w k3 #[.int .i64 (n : Int)] 3) :
    Calls Tryz.prog 132 #[.pointer (some ⟨k1, 0, none⟩), .pointer (some ⟨k2, 0, none⟩), .pointer (some ⟨k3, 0, none⟩)] w fun e w' => ∃ x, e = .returned (.int .i64 x) ∧ Did r w base b D i (.cut nm n) x w' := by
  obtain ⟨hnm, hn, hl⟩ := hok
  obtain ⟨tx, la, h1⟩ := h1
  have c11 := (h1.cell 1).trans (show _ = some (Value.string tx) from rfl)
  have c12 := (h1.cell 2).trans (show _ = some (Value.int .i64 la) from rfl)
  have c1 := (h1.cell 0).trans (show _ = some (Value.pointer (some ⟨b, 0, none⟩)) from rfl)
  have c2 := (h2.cell 0).trans (show _ = some (Value.string nm) from rfl)
  have c3 := (h3.cell 0).trans (show _ = some (Value.int .i64 (n : Int)) from rfl)
  have hpd : (Stp.cut nm n).dn (psOf D) = ⟨keptOf D, D.chs ++ if n = (seenOf D nm).length then [] else [cutC nm n]⟩ := by
    show (⟨keptOf D, D.chs ++ if n = ((psOf D).see nm).length then [] else [cutC nm n]⟩ : PS) = _
    rw [h.toJX.see]
  have HW : Hid (∀ V, V = w → Calls Tryz.prog 133 #[.pointer (some ⟨b, 0, none⟩), .string nm, .int .i64 n] V fun e w' => ∃ x, e = .returned (.int .i64 x) ∧ Did r w base b D i (.cut nm n) x w') := fun V hV => by
    subst hV
    refine (cut_j V base b D who R h hi nm hnm n hn (.inl (by rw [← h.fl]; exact hl))).mono ?_
    rintro e w' ⟨rfl, D', who', hR, hJ, hC⟩
    exact ⟨_, rfl, hC.did trivial h.down hR hJ rfl hpd hpd⟩
  clear h1 h2 h3 h R hnm hn hl hpd
  go_enter Tryz.func132, Tryz.ntmps132
  go_wp2_with (go_at_call 133; with_reducible refine Calls.mono (HW.out _ rfl) ?_; rintro e w4 ⟨x, rfl, hD⟩; have HD := hideJ hD; clear hD)
  go_ret
  exact ⟨x, rfl, HD.out⟩
theorem sync_run (w : World) (base b : Nat) (D : DS) (who : Nat → Nat) (R : Rep w base b D who) {r : Int} {i : Nat} (h : JI r D i) (hi : i ≤ 20000) (nm : ByteArray) (k1 k2 : Nat)
    (h1 : Rc w k1 b) (h2 : Blk w k2 #[.string nm] 9) :
    Calls Tryz.prog 126 #[.pointer (some ⟨k1, 0, none⟩), .pointer (some ⟨k2, 0, none⟩)] w fun e w' => ∃ x, e = .returned (.int .i64 x) ∧ Did r w base b D i (.sync nm) x w' := by
  obtain ⟨tx, la, h1⟩ := h1
  have c11 := (h1.cell 1).trans (show _ = some (Value.string tx) from rfl)
  have c12 := (h1.cell 2).trans (show _ = some (Value.int .i64 la) from rfl)
  have c1 := (h1.cell 0).trans (show _ = some (Value.pointer (some ⟨b, 0, none⟩)) from rfl)
  have c2 := (h2.cell 0).trans (show _ = some (Value.string nm) from rfl)
  have HW : Hid (∀ V, V = w → Calls Tryz.prog 127 #[.pointer (some ⟨b, 0, none⟩), .string nm] V fun e w' => ∃ x, e = .returned (.int .i64 x) ∧ Did r w base b D i (.sync nm) x w') := fun V hV => by
    subst hV
    by_cases f1 : D.fuse = 1
    · refine (sync_x V base b D who R h hi f1 nm).mono ?_
      rintro e w' ⟨rfl, D', who', hR, hJ, rfl⟩
      refine ⟨7, rfl, .inr (.inl ⟨trivial, f1, rfl, _, who', hR, hJ, ?_, rfl⟩)⟩
      show (D.down || D.fuse == 1) = true
      rw [f1]; simp
    · refine (sync_j V base b D who R h hi f1 nm).mono ?_
      rintro e w' ⟨rfl, D', who', hR, hJ, hs, hk, hc, hf⟩
      refine ⟨0, rfl, .inl ⟨trivial, f1, rfl, D', who', hR, hJ, funext hs, ?_, hf⟩⟩
      show (⟨keptOf D', D'.chs⟩ : PS) = ⟨Vw.set (keptOf D) nm ((psOf D).see nm), others nm D.chs⟩
      rw [hc, h.toJX.see]
      congr 1
      funext nm'
      exact hk nm'
  clear h1 h2 h R
  go_enter Tryz.func126, Tryz.ntmps126
  go_wp2_with (go_at_call 127; with_reducible refine Calls.mono (HW.out _ rfl) ?_; rintro e w4 ⟨x, rfl, hD⟩; have HD := hideJ hD; clear hD)
  go_ret
  exact ⟨x, rfl, HD.out⟩

/-- Steps in memory. -/
def StA (w : World) (b : Nat) (p : Option Addr) (n : Nat) (S : Nat → Stp) : Prop := 0 < n → ∃ g, ∃ cur : Array Value, p = some ⟨g, 0, none⟩ ∧ Blk w g cur 171 ∧ ∀ k, k < n → ∃ v, cur[k]? = some v ∧ SV w b (S k) v
theorem StA.moved {w w' : World} {base b : Nat} {D D' : DS} {who who' : Nat → Nat} {p : Option Addr} {n : Nat} {S : Nat → Stp} (h : StA w b p n S) (R : Rep w base b D who) (hm : RM w D w' base b D' who') : StA w' b p n S := fun h0 => by
  obtain ⟨g, cur, e, hb, hc⟩ := h h0
  refine ⟨g, cur, e, hm.blk R hb (by unfold OkT; decide), fun k hk => ?_⟩
  obtain ⟨v, h1, h2⟩ := hc k hk
  exact ⟨v, h1, h2.moved R hm⟩
theorem StA.grown {w w' : World} {b : Nat} {p : Option Addr} {n : Nat} {S : Nat → Stp} (h : StA w b p n S) (hg : w.grownBy w' none) : StA w' b p n S := fun h0 => by
  obtain ⟨g, cur, e, hb, hc⟩ := h h0
  refine ⟨g, cur, e, (Only.of_grown hg).blk hb (by simp), fun k hk => ?_⟩
  obtain ⟨v, h1, h2⟩ := hc k hk
  exact ⟨v, h1, h2.grown hg⟩
/-- What is seen behind the first steps. -/
def vw (f : Vw) (S : Nat → Stp) : Nat → Vw
  | 0 => f
  | k + 1 => (S k).on (vw f S k)
/-- How far the steps come. -/
def Far (r : Int) (f : Vw) (S : Nat → Stp) (n k : Nat) (e : Int) : Prop := k ≤ n ∧ (∀ j, j < k → (S j).fits r (vw f S j)) ∧ ((k = n ∧ e = 0) ∨ (k < n ∧ ¬ (S k).fits r (vw f S k) ∧ e = 5))
/-- How steps end on a disk that may crash. -/
def Ends (r : Int) (D : DS) (S : Nat → Stp) (n i k : Nat) (x : Int) (w : World) (base b : Nat) (w' : World) : Prop :=
  (Far r (seenOf D) S n k x ∧ (D.fuse = 0 ∨ (k : Int) < D.fuse) ∧ ∃ D' who', RM w D w' base b D' who' ∧ JI r D' (i + k) ∧ seenOf D' = vw (seenOf D) S k ∧ psOf D' = pst (psOf D) S k ∧ D'.fuse = if D.fuse = 0 then 0 else D.fuse - k) ∨
  (x = 7 ∧ k < n ∧ D.fuse = (k : Int) + 1 ∧ ∃ D' who', RM w D w' base b D' who' ∧ JX r D' (i + k + 1) ∧ D'.down = true ∧ psOf D' = (S k).cr (pst (psOf D) S k))

set_option maxHeartbeats 2000000 in
theorem do_any (w : World) (base b : Nat) (D : DS) (who : Nat → Nat) (R : Rep w base b D who) {r : Int} {i : Nat} (h : JI r D i) (p : Option Addr) (n cap : Nat) (S : Nat → Stp) (hS : StA w b p n S) (hin : i + n ≤ 20000)
    (hok : ∀ k, k < n → (∀ j, j < k → (S j).fits r (vw (seenOf D) S j)) → (S k).ok (vw (seenOf D) S k)) :
    Calls Tryz.prog 48 #[.slice p n cap] w fun e w' => ∃ k x, e = .returned (.int .i64 x) ∧ Ends r D S n i k x w base b w' := by
  have HR := hideJ R
  have HI := hideJ h
  have HS := hideJ hS
  have HOk := hideJ hok
  have HN := hideJ hin
  have HF0 := hideJ h.fuse.1
  clear R h hS hok hin
  go_enter Tryz.func48, Tryz.ntmps48
  go_wp2
  go_loopw [8] (fun iv wr => ∃ (k : Nat) (Dk : DS) (whok : Nat → Nat), k ≤ n ∧ iv = .int .i64 (k : Int) ∧ RM w D wr base b Dk whok ∧ JI r Dk (i + k) ∧ seenOf Dk = vw (seenOf D) S k ∧ psOf Dk = pst (psOf D) S k ∧ Dk.fuse = (if D.fuse = 0 then 0 else D.fuse - k) ∧ (D.fuse = 0 ∨ (k : Int) < D.fuse) ∧ ∀ j, j < k → (S j).fits r (vw (seenOf D) S j)) (fun iv _ => n - (intOf iv).toNat)
  case atStart => exact ⟨0, D, who, Nat.zero_le _, rfl, RM.start HR.out, HI.out, rfl, rfl, by have := HF0.out; split <;> omega, by have := HF0.out; omega, fun j hj => by omega⟩
  case round =>
    obtain ⟨k, Dk, whok, hk, rfl, hRk, hJk, hsk, hpk, hfu, hlf, hfk⟩ := hrel
    have HRk := hideJ hRk
    have HJk := hideJ hJk
    have HSk := hideJ hsk
    have HPk := hideJ hpk
    have HFu := hideJ (And.intro hfu hlf)
    have HFk := hideJ hfk
    clear hRk hJk hsk hfk hpk hfu hlf
    by_cases hlt : k < n
    · obtain ⟨g, cur, rfl, hb, hc⟩ := (HS.out.moved HR.out HRk.out) (by omega)
      obtain ⟨v, hv, hsv⟩ := hc k hlt
      have cv := (Blk.cell hb k).trans hv
      have l1 : (k : Int) < (n : Int) := by omega
      have l0 : (0 : Int) ≤ (k : Int) := by omega
      have hw1 : IntKind.i64.wrap ((k : Int) + 1) = (k : Int) + 1 := by have := HN.out; rw [IntKind.wrap_i64]; omega
      have hokk := HOk.out k hlt HFk.out
      rw [← HSk.out] at hokk
      have HK := hideJ hlt
      have HNx : Hid (∀ {V : World} {D2 : DS} {who2 : Nat → Nat}, (S k).fits r (seenOf Dk) → Dk.fuse ≠ 1 → RM wr Dk V base b D2 who2 → JI r D2 (i + k + 1) → seenOf D2 = (S k).on (seenOf Dk) → psOf D2 = (S k).dn (psOf Dk) → D2.fuse = dec Dk.fuse → RM w D V base b D2 who2 ∧ JI r D2 (i + (k + 1)) ∧ seenOf D2 = vw (seenOf D) S (k + 1) ∧ psOf D2 = pst (psOf D) S (k + 1) ∧ D2.fuse = (if D.fuse = 0 then 0 else D.fuse - ((k + 1 : Nat) : Int)) ∧ (D.fuse = 0 ∨ ((k + 1 : Nat) : Int) < D.fuse) ∧ ∀ j, j < k + 1 → (S j).fits r (vw (seenOf D) S j)) := fun h1 hn1 h2 h3 h4 h5 h6 => by
        have hF := HFu.out
        refine ⟨HRk.out.trans h2, h3, ?_, ?_, ?_, ?_, fun j hj => ?_⟩
        · rw [h4, HSk.out]; rfl
        · rw [h5, HPk.out]; rfl
        · rw [h6, hF.1]
          unfold dec
          have := HF0.out
          split <;> split <;> omega
        · rw [hF.1] at hn1
          have := HF0.out
          by_cases e0 : D.fuse = 0
          · exact .inl e0
          · rw [if_neg e0] at hn1
            exact .inr (by have := hF.2; omega)
        · by_cases e : j = k
          · subst e; rw [← HSk.out]; exact h1
          · exact HFk.out j (by omega)
      have HEx : Hid (∀ {V : World}, ¬ (S k).fits r (seenOf Dk) → wr.grownBy V none → Ends r D S n i k 5 w base b V) := fun h1 h2 => .inl ⟨⟨by omega, HFk.out, .inr ⟨hlt, by rw [← HSk.out]; exact h1, rfl⟩⟩, HFu.out.2, Dk, whok, HRk.out.grown h2, HJk.out, HSk.out, HPk.out, HFu.out.1⟩
      have HCr : Hid (∀ {V : World} {D2 : DS} {who2 : Nat → Nat}, Dk.fuse = 1 → RM wr Dk V base b D2 who2 → JX r D2 (i + k + 1) → D2.down = true → psOf D2 = (S k).cr (psOf Dk) → Ends r D S n i k 7 w base b V) := fun hn1 h2 h3 h4 h5 => by
        refine .inr ⟨rfl, hlt, ?_, _, _, HRk.out.trans h2, h3, h4, by rw [h5, HPk.out]⟩
        have hF := HFu.out
        rw [hF.1] at hn1
        by_cases e0 : D.fuse = 0
        · rw [if_pos e0] at hn1; omega
        · rw [if_neg e0] at hn1; omega
      have hi : i + k ≤ 20000 := by have := HN.out; omega
      clear hb hc hv
      generalize hs : S k = s at hsv hokk HNx HEx HCr
      cases s with
      | put nm at_ d =>
        obtain ⟨k1, k2, k3, k4, rfl, b1, b2, b3, b4⟩ := hsv
        have HC := hideJ (put_run wr base b Dk whok HRk.out.rep HJk.out hi nm d at_ hokk k1 k2 k3 k4 b1 b2 b3 b4)
        clear b1 b2 b3 b4 hokk hs
        by_cases hfit : (Stp.put nm at_ d).fits r (seenOf Dk)
        · by_cases f1 : Dk.fuse = 1
          · have HC2 := hideJ (Did.cr HC.out hfit f1)
            clear HC
            go_wp2_with (go_at_call 124; with_reducible refine Calls.mono HC2.out ?_; rintro e w4 ⟨rfl, D4, who4, hR4, hJ4, hd4, hp4⟩; have HNew := hideJ (HCr.out f1 hR4 hJ4 hd4 hp4); clear hR4 hJ4 hd4 hp4)
            go_ret
            exact ⟨k, 7, rfl, HNew.out⟩
          · have HC2 := hideJ (Did.yes HC.out hfit f1)
            clear HC
            go_wp2_with (go_at_call 124; with_reducible refine Calls.mono HC2.out ?_; rintro e w4 ⟨rfl, D4, who4, hR4, hJ4, hs4, hp4, hf4⟩; have HNew := hideJ (HNx.out hfit f1 hR4 hJ4 hs4 hp4 hf4); clear hR4 hJ4 hs4 hp4 hf4)
            refine ⟨⟨k + 1, D4, who4, HK.out, rfl, HNew.out⟩, ?_⟩
            simp only [intOf]; have := HK.out; omega
        · have HC2 := hideJ (Did.no HC.out hfit)
          clear HC
          go_wp2_with (go_at_call 124; with_reducible refine Calls.mono HC2.out ?_; rintro e w4 ⟨rfl, hg4⟩; have HNew := hideJ (HEx.out hfit hg4); clear hg4)
          go_ret
          exact ⟨k, 5, rfl, HNew.out⟩
      | cut nm m =>
        obtain ⟨k1, k2, k3, rfl, b1, b2, b3⟩ := hsv
        have HC := hideJ (cut_run wr base b Dk whok HRk.out.rep HJk.out hi nm m hokk k1 k2 k3 b1 b2 b3)
        have hfit : (Stp.cut nm m).fits r (seenOf Dk) := trivial
        clear b1 b2 b3 hokk hs
        by_cases f1 : Dk.fuse = 1
        · have HC2 := hideJ (Did.cr HC.out hfit f1)
          clear HC
          go_wp2_with (go_at_call 132; with_reducible refine Calls.mono HC2.out ?_; rintro e w4 ⟨rfl, D4, who4, hR4, hJ4, hd4, hp4⟩; have HNew := hideJ (HCr.out f1 hR4 hJ4 hd4 hp4); clear hR4 hJ4 hd4 hp4)
          go_ret
          exact ⟨k, 7, rfl, HNew.out⟩
        · have HC2 := hideJ (Did.yes HC.out hfit f1)
          clear HC
          go_wp2_with (go_at_call 132; with_reducible refine Calls.mono HC2.out ?_; rintro e w4 ⟨rfl, D4, who4, hR4, hJ4, hs4, hp4, hf4⟩; have HNew := hideJ (HNx.out hfit f1 hR4 hJ4 hs4 hp4 hf4); clear hR4 hJ4 hs4 hp4 hf4)
          refine ⟨⟨k + 1, D4, who4, HK.out, rfl, HNew.out⟩, ?_⟩
          simp only [intOf]; have := HK.out; omega
      | sync nm =>
        obtain ⟨k1, k2, rfl, b1, b2⟩ := hsv
        have HC := hideJ (sync_run wr base b Dk whok HRk.out.rep HJk.out hi nm k1 k2 b1 b2)
        have hfit : (Stp.sync nm).fits r (seenOf Dk) := trivial
        clear b1 b2 hokk hs
        by_cases f1 : Dk.fuse = 1
        · have HC2 := hideJ (Did.cr HC.out hfit f1)
          clear HC
          go_wp2_with (go_at_call 126; with_reducible refine Calls.mono HC2.out ?_; rintro e w4 ⟨rfl, D4, who4, hR4, hJ4, hd4, hp4⟩; have HNew := hideJ (HCr.out f1 hR4 hJ4 hd4 hp4); clear hR4 hJ4 hd4 hp4)
          go_ret
          exact ⟨k, 7, rfl, HNew.out⟩
        · have HC2 := hideJ (Did.yes HC.out hfit f1)
          clear HC
          go_wp2_with (go_at_call 126; with_reducible refine Calls.mono HC2.out ?_; rintro e w4 ⟨rfl, D4, who4, hR4, hJ4, hs4, hp4, hf4⟩; have HNew := hideJ (HNx.out hfit f1 hR4 hJ4 hs4 hp4 hf4); clear hR4 hJ4 hs4 hp4 hf4)
          refine ⟨⟨k + 1, D4, who4, HK.out, rfl, HNew.out⟩, ?_⟩
          simp only [intOf]; have := HK.out; omega
    · obtain rfl : k = n := by omega
      go_wp2
      go_ret
      exact ⟨k, 0, rfl, .inl ⟨⟨Nat.le_refl _, HFk.out, .inl ⟨rfl, rfl⟩⟩, HFu.out.2, Dk, whok, HRk.out, HJk.out, HSk.out, HPk.out, HFu.out.1⟩⟩
/-- On a disk that is not to crash. -/
theorem do_zero (w : World) (base b : Nat) (D : DS) (who : Nat → Nat) (R : Rep w base b D who) {r : Int} {i : Nat} (h : JI r D i) (hz : D.fuse = 0) (p : Option Addr) (n cap : Nat) (S : Nat → Stp) (hS : StA w b p n S) (hin : i + n ≤ 20000)
    (hok : ∀ k, k < n → (∀ j, j < k → (S j).fits r (vw (seenOf D) S j)) → (S k).ok (vw (seenOf D) S k)) :
    Calls Tryz.prog 48 #[.slice p n cap] w fun e w' => ∃ k x, e = .returned (.int .i64 x) ∧ Far r (seenOf D) S n k x ∧ ∃ D' who', RM w D w' base b D' who' ∧ JI r D' (i + k) ∧ seenOf D' = vw (seenOf D) S k ∧ D'.fuse = 0 ∧ psOf D' = pst (psOf D) S k := by
  refine (do_any w base b D who R h p n cap S hS hin hok).mono ?_
  rintro e w' ⟨k, x, rfl, ⟨hF, _, D', who', h1, h2, h3, h4, h5⟩ | ⟨_, _, h2, _⟩⟩
  · exact ⟨k, x, rfl, hF, D', who', h1, h2, h3, by rw [h5, if_pos hz], h4⟩
  · omega
end Go.Proofs.YteocmhbllckpjaaGreat
