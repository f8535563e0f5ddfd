/- What is kept of a file has turned; a file is dropped. -/
/- Contracts of a file's resize to fewer bytes, of put behind its end, of arrived. -/
/- What is kept of a file: resized, laid into; a change taken. -/
import Derived.Test.YteocmhbllckpjaaGreatM
import Derived.Deep.Cut
import Derived.Deep.CutRange
import Derived.Deep.RegionHeld3
import Derived.Deep.MidRow
import Derived.Deep.WholeRow
namespace Go.Proofs.YteocmhbllckpjaaGreat
open Go.ChangeShapes Go.WideShapes Go.ChangeAt Go.RowKit
open Go.ChangeMaps (setBlock)
set_option linter.unusedVariables false

section
variable {w w' : World} {base b : Nat} {D : DS} {who : Nat → Nat}

/-- What is kept of one file has turned. -/
theorem Rep.setK (R : Rep w base b D who) {f0 : FL} (hf0 : f0 ∈ D.fs) (v' : Value) (l' : List UInt8) (hv : ∀ g, v'.ownBlock = some g → f0.kv.ownBlock = some g ∨ w.heap.size ≤ g)
    (h' : Only (f0.eb :: f0.kv.ownBlock.toList) w w') (hb : Blk w' f0.eb #[f0.sv, v'] 119) (ho : Own w' base v' l') :
    Rep w' base b { D with fs := upd D.fs f0.born fun f => { f with kv := v', kept := l' } } (fun k => if v'.ownBlock = some k then 5 + 3 * f0.born else who k) := by
  have hwf := R.we f0 hf0
  have ng : ∀ k, k < w.heap.size → who k ≠ 5 + 3 * f0.born → ¬ v'.ownBlock = some k := fun k hk h2 e => by
    rcases hv k e with hg | hg
    · rw [R.wk f0 hf0 k hg] at h2; exact h2 rfl
    · omega
  have nS : ∀ k, who k ≠ 3 + 3 * f0.born → who k ≠ 5 + 3 * f0.born → k ∉ f0.eb :: f0.kv.ownBlock.toList := fun k h0 h2 hm => by
    rcases List.mem_cons.1 hm with rfl | hm
    · exact h0 hwf
    · exact h2 (R.wk f0 hf0 k (by simpa using hm))
  have key : ∀ f' ∈ upd D.fs f0.born (fun f => { f with kv := v', kept := l' }), (f' = { f0 with kv := v', kept := l' }) ∨ (f' ∈ D.fs ∧ f'.born ≠ f0.born) := fun f' hf' => by
    obtain ⟨f, hf, ⟨e, rfl⟩ | ⟨e, rfl⟩⟩ := mem_upd hf'
    · have : f = f0 := FL.inj R.nodup hf hf0 e
      subst this; exact .inl rfl
    · exact .inr ⟨hf, e⟩
  refine
    { blk := h'.blk R.blk (nS _ (by rw [R.wb]; omega) (by rw [R.wb]; omega))
      map := by
        show w'.heap[D.mb]? = some (.map (ents (upd D.fs f0.born _)) D.clock)
        rw [ents_upd (g := fun f => { f with kv := v', kept := l' }) (fun f => rfl)]; exact h'.blk R.map (nS _ (by rw [R.wm]; omega) (by rw [R.wm]; omega))
      born := fun f' hf' => by
        rcases key f' hf' with rfl | ⟨hf, _⟩
        · exact R.born f0 hf0
        · exact R.born f' hf
      nodup := by show ((upd D.fs f0.born _).map (·.born)).Nodup; rw [born_upd (g := fun f => { f with kv := v', kept := l' }) (fun f => rfl)]; exact R.nodup
      ent := fun f' hf' => by
        rcases key f' hf' with rfl | ⟨hf, e⟩
        · exact hb
        · exact h'.blk (R.ent f' hf) (nS _ (by rw [R.we f' hf]; omega) (by rw [R.we f' hf]; omega))
      osv := fun f' hf' => by
        rcases key f' hf' with rfl | ⟨hf, e⟩
        · exact ownsRow_only (R.osv f0 hf0) h' (fun k hk => nS _ (by rw [R.ws f0 hf0 k hk]; omega) (by rw [R.ws f0 hf0 k hk]; omega))
        · exact ownsRow_only (R.osv f' hf) h' (fun k hk => nS _ (by rw [R.ws f' hf k hk]; omega) (by rw [R.ws f' hf k hk]; omega))
      okv := fun f' hf' => by
        rcases key f' hf' with rfl | ⟨hf, e⟩
        · exact ho
        · exact ownsRow_only (R.okv f' hf) h' (fun k hk => nS _ (by rw [R.wk f' hf k hk]; omega) (by rw [R.wk f' hf k hk]; omega))
      ochs := ownsRow_only R.ochs h' (fun k hk => nS _ (by rw [R.wc k hk]; omega) (by rw [R.wc k hk]; omega))
      c64 := R.c64, lowb := R.lowb, lowm := R.lowm
      lowe := fun f' hf' => by
        rcases key f' hf' with rfl | ⟨hf, _⟩
        · exact R.lowe f0 hf0
        · exact R.lowe f' hf
      wb := by rw [if_neg (ng b R.blk.lt (by rw [R.wb]; omega))]; exact R.wb
      wm := by show (if v'.ownBlock = some D.mb then _ else who D.mb) = 1; rw [if_neg (ng _ R.mlt (by rw [R.wm]; omega))]; exact R.wm
      wc := fun k hk => by rw [if_neg (ng _ (own_lt R.ochs k hk).2 (by rw [R.wc k hk]; omega))]; exact R.wc k hk
      we := fun f' hf' => by
        rcases key f' hf' with rfl | ⟨hf, e⟩
        · show (if v'.ownBlock = some f0.eb then _ else who f0.eb) = _; rw [if_neg (ng _ (R.ent f0 hf0).lt (by rw [hwf]; omega))]; exact hwf
        · rw [if_neg (ng _ (R.ent f' hf).lt (by rw [R.we f' hf]; omega))]; exact R.we f' hf
      ws := fun f' hf' k hk => by
        rcases key f' hf' with rfl | ⟨hf, e⟩
        · have hk' : f0.sv.ownBlock = some k := hk
          rw [if_neg (ng _ (own_lt (R.osv f0 hf0) k hk').2 (by rw [R.ws f0 hf0 k hk']; omega))]; exact R.ws f0 hf0 k hk'
        · rw [if_neg (ng _ (own_lt (R.osv f' hf) k hk).2 (by rw [R.ws f' hf k hk]; omega))]; exact R.ws f' hf k hk
      wk := fun f' hf' k hk => by
        rcases key f' hf' with rfl | ⟨hf, e⟩
        · have hk' : v'.ownBlock = some k := hk
          rw [if_pos hk']
        · rw [if_neg (ng _ (own_lt (R.okv f' hf) k hk).2 (by rw [R.wk f' hf k hk]; omega))]; exact R.wk f' hf k hk }

/-- A file is dropped. -/
theorem Rep.delF (R : Rep w base b D who) (fs : List FL) (hs : ∀ f ∈ fs, f ∈ D.fs) (hn : (fs.map (·.born)).Nodup) (h' : Only [D.mb] w w') (hm : w'.heap[D.mb]? = some (.map (ents fs) D.clock)) :
    Rep w' base b { D with fs := fs } who := by
  have nS : ∀ k, who k ≠ 1 → k ∉ [D.mb] := fun k h0 hm => by simp at hm; rw [hm] at h0; exact h0 R.wm
  exact
    { blk := h'.blk R.blk (nS _ (by rw [R.wb]; omega)), map := hm
      born := fun f hf => R.born f (hs f hf), nodup := hn
      ent := fun f hf => h'.blk (R.ent f (hs f hf)) (nS _ (by rw [R.we f (hs f hf)]; omega))
      osv := fun f hf => ownsRow_only (R.osv f (hs f hf)) h' (fun k hk => nS _ (by rw [R.ws f (hs f hf) k hk]; omega))
      okv := fun f hf => ownsRow_only (R.okv f (hs f hf)) h' (fun k hk => nS _ (by rw [R.wk f (hs f hf) k hk]; omega))
      ochs := ownsRow_only R.ochs h' (fun k hk => nS _ (by rw [R.wc k hk]; omega))
      c64 := R.c64, lowb := R.lowb, lowm := R.lowm, lowe := fun f hf => R.lowe f (hs f hf), wb := R.wb, wm := R.wm, wc := R.wc
      we := fun f hf => R.we f (hs f hf), ws := fun f hf => R.ws f (hs f hf), wk := fun f hf => R.wk f (hs f hf) }
end
end Go.Proofs.YteocmhbllckpjaaGreat

namespace Go.Proofs.YteocmhbllckpjaaGreat
open Go.ChangeShapes Go.WideShapes Go.ChangeAt Go.RowKit
set_option linter.unusedVariables false

theorem hide {p : Prop} (h : p) : Hid p := h
theorem bcs_take (l : List UInt8) (n : Nat) : bcs (l.take n) = (bcs l).take n := by simp [bcs]

set_option maxHeartbeats 400000 in
theorem file_resize_less (w : World) (b o : Nat) (c : Array Value) (t : TypeId) (base : Nat) (v : Value) (l : List UInt8) (n : Nat) (hb : Blk w b c t) (hc : c[o]? = some v) (hown : Own w base v l) (hn : n ≤ l.length) (hl : l.length ≤ 1048576) :
    Calls Tryz.prog 97 #[.pointer (some ⟨b, o, none⟩), .int .i64 n] w fun e w' => e = .returned (.tuple #[]) ∧
      ∃ v', Own w base v' (l.take n) ∧ (∀ g, v'.ownBlock = some g → v.ownBlock = some g) ∧ w' = w.setCell ⟨b, o, none⟩ v' := by
  have h0 : w.cell? ⟨b, o, none⟩ = some v := (hb.cell o).trans hc
  have f0 := hb.frozen o
  have hle : (n : Int) ≤ (l.length : Int) := by omega
  rcases hown.2 with ⟨rfl, hz⟩ | ⟨g, cap, cur, rfl, hbg, hg, hnc, hcm, hcs, htake⟩
  · obtain rfl : n = 0 := by omega
    have e0 : (l.length : Int) = 0 := by omega
    go_enter Tryz.func97, Tryz.ntmps97
    go_wp2
    refine bodyPost_ret (results_none rfl _ _ _) rfl ?_
    have e1 : l = [] := List.length_eq_zero_iff.1 hz
    subst e1
    exact ⟨rfl, _, World.ownsRow_nil _ _ _ _, fun g h => h, rfl⟩
  · have hle2 : (n : Int) ≤ (cap : Int) := by omega
    have hn0 : (0 : Int) ≤ (n : Int) := by omega
    have hlt : (l.take n).length = n := by rw [List.length_take]; omega
    have HO : Hid (Own w base (.slice (some ⟨g, 0, none⟩) n cap) (l.take n)) := by
      refine ⟨by rw [length_bcs, Nat.mul_one], .inr ⟨g, cap, cur, by rw [hlt], hbg, hg, by omega, hcm, hcs, ?_⟩⟩
      rw [hlt, bcs_take, ← htake, List.take_take]
      congr 1
      omega
    clear hb hown htake hcs hg hlt
    go_enter Tryz.func97, Tryz.ntmps97
    go_wp2
    refine bodyPost_ret (results_none rfl _ _ _) rfl ?_
    exact ⟨rfl, _, HO.out, fun g h => h, rfl⟩

set_option maxHeartbeats 400000 in
theorem put_out (w : World) (b o : Nat) (c : Array Value) (t : TypeId) (base : Nat) (v : Value) (l : List UInt8) (at_ : Nat) (dv : Value) (hb : Blk w b c t) (hc : c[o]? = some v) (hown : Own w base v l) (hat : l.length ≤ at_) :
    Calls Tryz.prog 98 #[.pointer (some ⟨b, o, none⟩), .int .i64 at_, dv] w fun e w' => e = .returned (.tuple #[]) ∧ w = w' := by
  have h0 : w.cell? ⟨b, o, none⟩ = some v := (hb.cell o).trans hc
  obtain ⟨a, cap, rfl⟩ := ownsRow_form hown
  have hle : ¬ (at_ : Int) < (l.length : Int) := by omega
  clear hown hb
  go_enter Tryz.func98, Tryz.ntmps98
  go_wp2
  go_end0
  exact ⟨rfl, rfl⟩

/-- How many bytes of a sector come through. -/
def arrN (k : Int) : Nat := if k = 1 then 64 else (1 + (k - 2) % 63).toNat
theorem arrN_le {k : Int} (h : 1 ≤ k) : 1 ≤ arrN k ∧ arrN k ≤ 64 := by
  unfold arrN
  split <;> omega

set_option maxHeartbeats 400000 in
theorem arrived_any (k : Int) (h1 : 1 ≤ k) (h2 : k ≤ 9223372036854775807) (w : World) : Calls Tryz.prog 99 #[.int .i64 k] w fun e w' => e = .returned (.int .i64 (arrN k : Int)) ∧ w = w' := by
  have hle := arrN_le h1
  by_cases e : k = 1
  · subst e
    go_enter Tryz.func99, Tryz.ntmps99
    go_wp2
    go_ret
    exact ⟨rfl, rfl⟩
  · have w1 : IntKind.i64.wrap (k - 2) = k - 2 := by rw [IntKind.wrap_i64]; omega
    have hm : ((arrN k : Nat) : Int) = 1 + (k - 2) % 63 := by
      unfold arrN
      rw [if_neg e]
      omega
    have hn : (k - 2).tmod 63 = (k - 2) % 63 := Int.tmod_eq_emod_of_nonneg (by omega)
    have w2 : IntKind.i64.wrap (1 + (k - 2) % 63) = 1 + (k - 2) % 63 := by rw [← hm, IntKind.wrap_i64]; omega
    have w3 : IntKind.i64.wrap ((k - 2) % 63) = (k - 2) % 63 := by rw [IntKind.wrap_i64]; omega
    have HM := hide hm
    clear hle hm
    go_enter Tryz.func99, Tryz.ntmps99
    go_wp2
    go_ret
    exact ⟨ret_int HM.out.symm, rfl⟩
end Go.Proofs.YteocmhbllckpjaaGreat

namespace Go.Proofs.YteocmhbllckpjaaGreat
open Go.ChangeShapes Go.WideShapes Go.ChangeAt Go.RowKit
set_option linter.unusedVariables false

/-- A file of another number of bytes; bytes laid into a file; a change taken. -/
def rsz (l : List UInt8) (n : Nat) : List UInt8 := if n ≤ l.length then l.take n else l ++ List.replicate (n - l.length) 0
def putL (l : List UInt8) (at_ : Nat) (d : List UInt8) : List UInt8 := if at_ < l.length then splice l at_ (d.take (l.length - at_)) else l
def takeL (l : List UInt8) (c : Ch) (k : Int) : List UInt8 := if k ≤ 0 then l else if c.sector = -1 then rsz l c.size.toNat else putL l (c.sector.toNat * 64) (c.data.take (arrN k))

theorem kresize (w : World) (base b : Nat) (D : DS) (who : Nat → Nat) (R : Rep w base b D who) (f : FL) (hf : f ∈ D.fs) (n : Nat) (hn : n ≤ 1048576) (hl : f.kept.length ≤ 1048576) :
    Calls Tryz.prog 97 #[.pointer (some ⟨f.eb, 1, none⟩), .int .i64 n] w fun e w' => e = .returned (.tuple #[]) ∧ Only (f.eb :: f.kv.ownBlock.toList) w w' ∧
      ∃ v' who', Rep w' base b { D with fs := upd D.fs f.born fun x => { x with kv := v', kept := rsz f.kept n } } who' := by
  have hek : ∀ g, f.kv.ownBlock = some g → g ≠ f.eb := fun g hg e => by have h1 := R.wk f hf _ hg; have h2 := R.we f hf; rw [e] at h1; omega
  by_cases h : n ≤ f.kept.length
  · refine (file_resize_less w f.eb 1 #[f.sv, f.kv] 119 base f.kv f.kept n (R.ent f hf) rfl (R.okv f hf) h hl).mono ?_
    rintro e w' ⟨rfl, v', ho, hv, rfl⟩
    have hO : Only (f.eb :: f.kv.ownBlock.toList) w (w.setCell ⟨f.eb, 1, none⟩ v') := (Only.setCell w ⟨f.eb, 1, none⟩ v').mono (by simp)
    have R' := R.setK hf v' (rsz f.kept n) (fun g hg => .inl (hv g hg)) hO ((R.ent f hf).set 1 v') (by
      unfold rsz
      rw [if_pos h]
      exact ownsRow_only ho (Only.setCell w ⟨f.eb, 1, none⟩ v') (fun k hk => by have := hek k (hv k hk); simp; exact this))
    exact ⟨rfl, hO, v', _, R'⟩
  · refine (file_resize_more w f.eb 1 #[f.sv, f.kv] 119 base f.kv f.kept n (R.ent f hf) rfl (R.okv f hf) (fun e => hek _ e rfl) (by omega) hn R.base_le).mono ?_
    rintro e w' ⟨rfl, v', w2, hS1, hS2, ⟨g, hvg, hgg⟩, rfl⟩
    have hne : f.eb ≠ g := fun e => by
      rcases hgg with h | h
      · exact hek _ h e.symm
      · have := (R.ent f hf).lt; omega
    have hO1 : Only (f.eb :: f.kv.ownBlock.toList) w (w2.setCell ⟨f.eb, 1, none⟩ v') := ((Only.of_grown hS2).mono (fun j hj => List.mem_cons_of_mem _ hj)).trans ((Only.setCell _ _ _).mono (by simp))
    have hB2 : Blk w2 f.eb #[f.sv, f.kv] 119 := (Only.of_grown hS2).blk (R.ent f hf) (fun hm => hek f.eb (by simpa using hm) rfl)
    have R1 := R.setK hf v' (rsz f.kept n) (fun k hk => by rw [hvg] at hk; cases hk; exact hgg) hO1 (hB2.set 1 v') (by
      unfold rsz
      rw [if_neg h]
      exact ownsRow_only hS1 (Only.setCell w2 ⟨f.eb, 1, none⟩ v') (fun k hk => by rw [hvg] at hk; cases hk; simp; omega))
    exact ⟨rfl, hO1, v', _, R1⟩

theorem kput (w : World) (base b : Nat) (D : DS) (who : Nat → Nat) (R : Rep w base b D who) (f : FL) (hf : f ∈ D.fs) (d : List UInt8) (at_ : Nat) (ad : Addr) (dc : Nat) (hl : f.kept.length ≤ 1048576)
    (hd : ∀ j u, (bcs d)[j]? = some u → w.cell? (ad.add j) = some u) :
    Calls Tryz.prog 98 #[.pointer (some ⟨f.eb, 1, none⟩), .int .i64 at_, .slice (some ad) d.length dc] w fun e w' => e = .returned (.tuple #[]) ∧ Only (f.eb :: f.kv.ownBlock.toList) w w' ∧
      ∃ v' who', Rep w' base b { D with fs := upd D.fs f.born fun x => { x with kv := v', kept := putL f.kept at_ d } } who' := by
  have hek : ∀ g, f.kv.ownBlock = some g → g ≠ f.eb := fun g hg e => by have h1 := R.wk f hf _ hg; have h2 := R.we f hf; rw [e] at h1; omega
  by_cases h : at_ < f.kept.length
  · refine (put_at w f.eb 1 #[f.sv, f.kv] 119 base f.kv f.kept d at_ ad dc (R.ent f hf) rfl (R.okv f hf) h hl hd).mono ?_
    rintro e w' ⟨rfl, ho, hg⟩
    have hO : Only (f.eb :: f.kv.ownBlock.toList) w w' := (Only.of_grown hg).mono (fun j hj => List.mem_cons_of_mem _ hj)
    have hB : Blk w' f.eb #[f.sv, f.kv] 119 := (Only.of_grown hg).blk (R.ent f hf) (fun hm => hek f.eb (by simpa using hm) rfl)
    have R' := R.setK hf f.kv (putL f.kept at_ d) (fun g hg => .inl hg) hO hB (by unfold putL; rw [if_pos h]; exact ho)
    exact ⟨rfl, hO, f.kv, _, R'⟩
  · refine (put_out w f.eb 1 #[f.sv, f.kv] 119 base f.kv f.kept at_ _ (R.ent f hf) rfl (R.okv f hf) (by omega)).mono ?_
    rintro e w' ⟨rfl, rfl⟩
    refine ⟨rfl, Only.refl _ _, f.kv, who, ?_⟩
    rw [upd_self R.nodup hf _ (by unfold putL; rw [if_neg h])]
    exact R

theorem chg_cell (w : World) (c : Ch) (h64 : c.data.length = 64) : Blk (w.alloc (.cells c.cells.toArray 112)) w.heap.size c.cells.toArray 112 := alloc_new _ _
theorem chg_get (c : Ch) : c.cells.toArray[1]? = some (.int .i64 c.sector) ∧ c.cells.toArray[2]? = some (.int .i64 c.size) ∧ c.cells.toArray[0]? = some (.string c.name) ∧ ∀ j u, (bcs c.data)[j]? = some u → c.cells.toArray[3 + j]? = some u := by
  refine ⟨rfl, rfl, rfl, fun j u h => ?_⟩
  simp only [Ch.cells, chg, List.getElem?_toArray]
  rw [List.getElem?_append_right (by simp)]
  simpa using h
theorem Rep.alloc {w : World} {base b : Nat} {D : DS} {who : Nat → Nat} (R : Rep w base b D who) (o : Obj) : Rep (w.alloc o) base b D who := R.keep (World.grownBy_alloc w o none)
theorem below_alloc (w : World) (o : Obj) {base : Nat} (h : base ≤ w.heap.size) : Below base w (w.alloc o) := (Below.refl _ _).alloc h _

theorem Rep.only_below {w w' : World} {base b : Nat} {D : DS} {who : Nat → Nat} (R : Rep w base b D who) {f : FL} (hf : f ∈ D.fs) (h : Only (f.eb :: f.kv.ownBlock.toList) w w') : Below base w w' :=
  h.below R.base_le (fun j hj => by
    rcases List.mem_cons.1 hj with rfl | hj
    · exact R.lowe f hf
    · exact (own_lt (R.okv f hf) j (by simpa using hj)).1)
theorem Rep.far {w : World} {base b : Nat} {D : DS} {who : Nat → Nat} (R : Rep w base b D who) {f : FL} (hf : f ∈ D.fs) {k : Nat} (hk : w.heap.size ≤ k) : k ∉ f.eb :: f.kv.ownBlock.toList := fun hm => by
  rcases List.mem_cons.1 hm with rfl | hm
  · have := (R.ent f hf).lt; omega
  · have := (own_lt (R.okv f hf) k (by simpa using hm)).2; omega

theorem arr42 : Tryz.prog.underlying 110 = some (.array 64 5) := by kernel_rfl
theorem arr42l : Tryz.prog.arrayLen 110 = 64 := by simp [Program.arrayLen]
theorem arr42e : Tryz.prog.elem 110 = 5 := by simp [Program.elem]
theorem size5d (W : World) : (sizeOf 5).run Tryz.prog W = .ok 1 W := by
  have h : (Tryz.prog.info? 5).map (·.size) = some 1 := bytes_size
  cases hq : Tryz.prog.info? 5 with
  | none => simp [hq] at h
  | some i => simp [sizeOf, typeInfo, hq] at h ⊢; exact h
theorem cut64 (W : World) (g o n : Nat) (h : n ≤ 64) : (Instr.sliceAt 110 (.pointer (some ⟨g, o, none⟩)) none (some (.int .i64 (n : Int))) none).run Tryz.prog W = .ok (.slice (some ⟨g, o, none⟩) n 64) W := by
  rw [run_sliceAt_array_h W 110 ⟨g, o, none⟩ (by rw [arr42l, arr42e]; exact arr42) .i64 _ (by omega) (by rw [arr42l]; omega), arr42e, size5d, arr42l]
  simp only [Result.andThen, slicedAt]
  rw [if_neg (by omega)]
  have e : (⟨g, o, none⟩ : Addr).add (0 * 1) = ⟨g, o, none⟩ := by unfold Addr.add; split <;> simp_all
  rw [e]
  congr 2

set_option maxHeartbeats 2000000 in
set_option maxRecDepth 10000 in
theorem take_any (w : World) (base b : Nat) (D : DS) (who : Nat → Nat) (R : Rep w base b D who) (f : FL) (hf : f ∈ D.fs) (c : Ch) (h64 : c.data.length = 64) (hsec : c.sector = -1 ∨ (0 ≤ c.sector ∧ c.sector ≤ 16384)) (hsz : 0 ≤ c.size ∧ c.size ≤ 1048576)
    (k : Int) (hk : k ≤ 9223372036854775807) (hl : f.kept.length ≤ 1048576) :
    Calls Tryz.prog 53 #[.pointer (some ⟨f.eb, 1, none⟩), .agg c.cells.toArray, .int .i64 k] w fun e w' => e = .returned (.tuple #[]) ∧ Only (f.eb :: f.kv.ownBlock.toList) w w' ∧
      ∃ v' who', Rep w' base b { D with fs := upd D.fs f.born fun x => { x with kv := v', kept := takeL f.kept c k } } who' := by
  have HR := hide (R.alloc (.cells c.cells.toArray 112))
  have HB0 := hide (Only.alloc w (.cells c.cells.toArray 112) (f.eb :: f.kv.ownBlock.toList))
  have HFar := hide (R.far hf (Nat.le_refl _))
  have HC := hide (chg_cell w c h64)
  have HF := hide hf
  have HN := hide R.nodup
  obtain ⟨g1, g2, g0, gd⟩ := chg_get c
  have c1 : (w.alloc (.cells c.cells.toArray 112)).cell? ⟨w.heap.size, 1, none⟩ = some (.int .i64 c.sector) := ((chg_cell w c h64).cell 1).trans g1
  have c2 : (w.alloc (.cells c.cells.toArray 112)).cell? ⟨w.heap.size, 2, none⟩ = some (.int .i64 c.size) := ((chg_cell w c h64).cell 2).trans g2
  have HD : Hid (∀ V : World, V.heap[w.heap.size]? = some (.cells c.cells.toArray 112 (0, 0)) → ∀ j u, (bcs c.data)[j]? = some u → V.cell? ⟨w.heap.size, 3 + j, none⟩ = some u) := fun V hV j u hj => by
    rw [Blk.cell (show Blk V w.heap.size c.cells.toArray 112 from hV)]; exact gd j u hj
  have H64 := hide h64
  have HL := hide hl
  by_cases hk0 : k ≤ 0
  · clear R g1 g2 g0 gd h64 c1 c2 hf
    go_enter Tryz.func53, Tryz.ntmps53
    go_wp2
    go_end0
    refine ⟨rfl, HB0.out, f.kv, who, ?_⟩
    rw [upd_self HN.out HF.out _ (by unfold takeL; rw [if_pos hk0])]
    exact HR.out
  · by_cases hs : c.sector = -1
    · have HK : Hid (∀ V, Rep V base b D who → Calls Tryz.prog 97 #[.pointer (some ⟨f.eb, 1, none⟩), .int .i64 c.size] V fun e w' => e = .returned (.tuple #[]) ∧ Only (f.eb :: f.kv.ownBlock.toList) V w' ∧ ∃ v' who', Rep w' base b { D with fs := upd D.fs f.born fun x => { x with kv := v', kept := takeL f.kept c k } } who') := fun V hV => by
        have := kresize V base b D who hV f hf c.size.toNat (by omega) hl
        rw [show ((c.size.toNat : Nat) : Int) = c.size by omega] at this
        refine this.mono ?_
        rintro e w' ⟨h1, h2, v', who', h3⟩
        refine ⟨h1, h2, v', who', ?_⟩
        rw [show takeL f.kept c k = rsz f.kept c.size.toNat by unfold takeL; rw [if_neg hk0, if_pos hs]]
        exact h3
      rw [hs] at c1
      clear R g1 g2 g0 gd h64 hf hs hsec hsz
      go_enter Tryz.func53, Tryz.ntmps53
      go_upto_region 4 with fail
      refine wp_region_held_drew (S := fun V => V.cell? ⟨w.heap.size, 2, none⟩ = some (.int .i64 c.size) ∧ True) (by kernel_rfl) ⟨c2, trivial⟩ ?_
      intro hHeld
      refine wpAnyH_take (i := 0) (v := .pointer (some ⟨f.eb, 1, none⟩)) rfl (by kernel_rfl) (by kernel_rfl) (by kernel_rfl) (fun _ _ _ h => h) (Or.inl ⟨by rfl, fun V hV => by (obtain ⟨f1, f2⟩ := hV; go_simp)⟩) hHeld ?_
      try simp only [Act.put, List.getElem_toArray, List.getElem_cons_zero, List.setIfInBounds_toArray, List.set_cons_zero, List.set_cons_succ]
      refine wpAnyH_take (i := 1) (v := .pointer (some ⟨f.eb, 1, none⟩)) rfl (by kernel_rfl) (by kernel_rfl) (by kernel_rfl) (fun _ _ _ h => h) (Or.inl ⟨by rfl, fun V hV => by (obtain ⟨f1, f2⟩ := hV; go_simp)⟩) hHeld ?_
      try simp only [Act.put, List.getElem_toArray, List.getElem_cons_succ, List.getElem_cons_zero, List.setIfInBounds_toArray, List.set_cons_zero, List.set_cons_succ]
      refine wpAnyH_take (i := 2) (v := .pointer (some ⟨f.eb, 1, none⟩)) rfl (by kernel_rfl) (by kernel_rfl) (by kernel_rfl) (fun _ _ _ h => h) (Or.inl ⟨by rfl, fun V hV => by (obtain ⟨f1, f2⟩ := hV; go_simp)⟩) hHeld ?_
      try simp only [Act.put, List.getElem_toArray, List.getElem_cons_succ, List.getElem_cons_zero, List.setIfInBounds_toArray, List.set_cons_zero, List.set_cons_succ]
      refine wpAnyH_take (i := 3) (v := .pointer (some ⟨w.heap.size, 2, none⟩)) rfl (by kernel_rfl) (by kernel_rfl) (by kernel_rfl) (fun _ _ _ h => h) (Or.inl ⟨by rfl, fun V hV => by (obtain ⟨f1, f2⟩ := hV; go_simp)⟩) hHeld ?_
      try simp only [Act.put, List.getElem_toArray, List.getElem_cons_succ, List.getElem_cons_zero, List.setIfInBounds_toArray, List.set_cons_zero, List.set_cons_succ]
      refine wpAnyH_take (i := 4) (v := .int .i64 c.size) rfl (by kernel_rfl) (by kernel_rfl) (by kernel_rfl) (fun _ _ _ h => h) (Or.inl ⟨by rfl, fun V hV => by (obtain ⟨f1, f2⟩ := hV; go_simp)⟩) hHeld ?_
      try simp only [Act.put, List.getElem_toArray, List.getElem_cons_succ, List.getElem_cons_zero, List.setIfInBounds_toArray, List.set_cons_zero, List.set_cons_succ]
      refine wpAnyH_ready (rs := [5]) (by kernel_rfl) (by simp) ?_
      refine AllReadyH.cons rfl (fun K hK => ?_) AllReadyH.nil
      go_simp
      go_at_call 97; refine Calls.mono (HK.out _ HR.out.drew) ?_; rintro e w3 ⟨rfl, hb3, v3, who3, R3⟩; have HX := hide hb3; have HR3 := hide R3; clear hb3 R3
      go_wp2_with fail
      refine hK.out _ _ ⟨?_, trivial⟩ (fun hHeld => ?_)
      · rw [World.cell?_of_block (HX.out.block w.heap.size (by simp) HFar.out)]
        exact c2
      · clear hK K
        refine wpAnyH_done (by kernel_rfl) ?_ _
        go_wp2_with fail
        go_end0
        exact ⟨rfl, HB0.out.trans ((Only.drew _ _).trans HX.out), v3, who3, HR3.out⟩
    · have hs0 : 0 ≤ c.sector ∧ c.sector ≤ 16384 := by rcases hsec with h | h; exact absurd h hs; exact h
      have hk1 : 1 ≤ k := by omega
      have ha := arrN_le hk1
      have hdl : (c.data.take (arrN k)).length = arrN k := by rw [List.length_take]; omega
      have HA := hide (arrived_any k hk1 hk)
      have HK : Hid (∀ V dc, Rep V base b D who → V.heap[w.heap.size]? = some (.cells c.cells.toArray 112 (0, 0)) → Calls Tryz.prog 98 #[.pointer (some ⟨f.eb, 1, none⟩), .int .i64 (c.sector * 64), .slice (some ⟨w.heap.size, 3, none⟩) (arrN k) dc] V fun e w' => e = .returned (.tuple #[]) ∧ Only (f.eb :: f.kv.ownBlock.toList) V w' ∧ ∃ v' who', Rep w' base b { D with fs := upd D.fs f.born fun x => { x with kv := v', kept := takeL f.kept c k } } who') := fun V dc hV hB => by
        have := kput V base b D who hV f hf (c.data.take (arrN k)) (c.sector.toNat * 64) ⟨w.heap.size, 3, none⟩ dc hl (fun j u hj => by
          have e : (⟨w.heap.size, 3, none⟩ : Addr).add j = ⟨w.heap.size, 3 + j, none⟩ := by unfold Addr.add; split <;> simp_all
          rw [e]
          refine HD.out V hB j u ?_
          rw [bcs_take, List.getElem?_take] at hj
          split at hj
          · exact hj
          · cases hj)
        rw [hdl, show ((c.sector.toNat * 64 : Nat) : Int) = c.sector * 64 by omega] at this
        refine this.mono ?_
        rintro e w' ⟨h1, h2, v', who', h3⟩
        refine ⟨h1, h2, v', who', ?_⟩
        rw [show takeL f.kept c k = putL f.kept (c.sector.toNat * 64) (c.data.take (arrN k)) by unfold takeL; rw [if_neg hk0, if_neg hs]]
        exact h3
      have hw : IntKind.i64.wrap (c.sector * 64) = c.sector * 64 := by rw [IntKind.wrap_i64]; omega
      have hcut : ∀ V : World, (Instr.sliceAt 110 (.pointer (some ⟨w.heap.size, 3, none⟩)) none (some (.int .i64 (arrN k : Int))) none).run Tryz.prog V = .ok (.slice (some ⟨w.heap.size, 3, none⟩) (arrN k) 64) V := fun V => cut64 V w.heap.size 3 (arrN k) ha.2
      clear R g1 g2 g0 gd h64 hf hsec hsz hs0 ha hdl
      go_enter Tryz.func53, Tryz.ntmps53
      go_upto_region 1 with fail
      refine wp_region_held_drew (S := fun V => V.cell? ⟨w.heap.size, 1, none⟩ = some (.int .i64 c.sector) ∧ True) (by kernel_rfl) ⟨c1, trivial⟩ ?_
      intro hHeld
      refine wpAnyH_take (i := 0) (v := .pointer (some ⟨f.eb, 1, none⟩)) rfl (by kernel_rfl) (by kernel_rfl) (by kernel_rfl) (fun _ _ _ h => h) (Or.inl ⟨by rfl, fun V hV => by (obtain ⟨f1, f2⟩ := hV; go_simp)⟩) hHeld ?_
      try simp only [Act.put, List.getElem_toArray, List.getElem_cons_zero, List.setIfInBounds_toArray, List.set_cons_zero, List.set_cons_succ]
      refine wpAnyH_take (i := 1) (v := .pointer (some ⟨f.eb, 1, none⟩)) rfl (by kernel_rfl) (by kernel_rfl) (by kernel_rfl) (fun _ _ _ h => h) (Or.inl ⟨by rfl, fun V hV => by (obtain ⟨f1, f2⟩ := hV; go_simp)⟩) hHeld ?_
      try simp only [Act.put, List.getElem_toArray, List.getElem_cons_succ, List.getElem_cons_zero, List.setIfInBounds_toArray, List.set_cons_zero, List.set_cons_succ]
      refine wpAnyH_take (i := 2) (v := .pointer (some ⟨f.eb, 1, none⟩)) rfl (by kernel_rfl) (by kernel_rfl) (by kernel_rfl) (fun _ _ _ h => h) (Or.inl ⟨by rfl, fun V hV => by (obtain ⟨f1, f2⟩ := hV; go_simp)⟩) hHeld ?_
      try simp only [Act.put, List.getElem_toArray, List.getElem_cons_succ, List.getElem_cons_zero, List.setIfInBounds_toArray, List.set_cons_zero, List.set_cons_succ]
      refine wpAnyH_take (i := 3) (v := .pointer (some ⟨w.heap.size, 1, none⟩)) rfl (by kernel_rfl) (by kernel_rfl) (by kernel_rfl) (fun _ _ _ h => h) (Or.inl ⟨by rfl, fun V hV => by (obtain ⟨f1, f2⟩ := hV; go_simp)⟩) hHeld ?_
      try simp only [Act.put, List.getElem_toArray, List.getElem_cons_succ, List.getElem_cons_zero, List.setIfInBounds_toArray, List.set_cons_zero, List.set_cons_succ]
      refine wpAnyH_take (i := 4) (v := .int .i64 c.sector) rfl (by kernel_rfl) (by kernel_rfl) (by kernel_rfl) (fun _ _ _ h => h) (Or.inl ⟨by rfl, fun V hV => by (obtain ⟨f1, f2⟩ := hV; go_simp)⟩) hHeld ?_
      try simp only [Act.put, List.getElem_toArray, List.getElem_cons_succ, List.getElem_cons_zero, List.setIfInBounds_toArray, List.set_cons_zero, List.set_cons_succ]
      refine wpAnyH_take (i := 5) (v := .int .i64 (c.sector * 64)) rfl (by kernel_rfl) (by kernel_rfl) (by kernel_rfl) (fun _ _ _ h => h) (Or.inl ⟨by rfl, fun V hV => by (obtain ⟨f1, f2⟩ := hV; go_simp)⟩) hHeld ?_
      try simp only [Act.put, List.getElem_toArray, List.getElem_cons_succ, List.getElem_cons_zero, List.setIfInBounds_toArray, List.set_cons_zero, List.set_cons_succ]
      refine wpAnyH_take (i := 6) (v := .pointer (some ⟨w.heap.size, 3, none⟩)) rfl (by kernel_rfl) (by kernel_rfl) (by kernel_rfl) (fun _ _ _ h => h) (Or.inl ⟨by rfl, fun V hV => by (obtain ⟨f1, f2⟩ := hV; go_simp)⟩) hHeld ?_
      try simp only [Act.put, List.getElem_toArray, List.getElem_cons_succ, List.getElem_cons_zero, List.setIfInBounds_toArray, List.set_cons_zero, List.set_cons_succ]
      refine wpAnyH_take (i := 7) (v := .int .i64 k) rfl (by kernel_rfl) (by kernel_rfl) (by kernel_rfl) (fun _ _ _ h => h) (Or.inl ⟨by rfl, fun V hV => by (obtain ⟨f1, f2⟩ := hV; go_simp)⟩) hHeld ?_
      try simp only [Act.put, List.getElem_toArray, List.getElem_cons_succ, List.getElem_cons_zero, List.setIfInBounds_toArray, List.set_cons_zero, List.set_cons_succ]
      refine wpAnyH_ready (rs := [8]) (by kernel_rfl) (by simp) ?_
      refine AllReadyH.cons rfl (fun K hK => ?_) AllReadyH.nil
      go_simp
      go_at_call 99; refine Calls.mono (HA.out _) ?_; rintro e w3 ⟨rfl, rfl⟩
      go_wp2_with fail
      refine hK.out _ _ ⟨c1, trivial⟩ (fun hHeld => ?_)
      clear hK K
      try simp only [Act.put, List.getElem_toArray, List.getElem_cons_succ, List.getElem_cons_zero, List.setIfInBounds_toArray, List.set_cons_zero, List.set_cons_succ]
      refine wpAnyH_take (i := 9) (v := .slice (some ⟨w.heap.size, 3, none⟩) (arrN k) 64) rfl (by kernel_rfl) (by kernel_rfl) (by kernel_rfl) (fun _ _ _ h => h) (Or.inl ⟨by rfl, fun V hV => by (obtain ⟨f1, f2⟩ := hV; go_simp)⟩) hHeld ?_
      try simp only [Act.put, List.getElem_toArray, List.getElem_cons_succ, List.getElem_cons_zero, List.setIfInBounds_toArray, List.set_cons_zero, List.set_cons_succ]
      refine wpAnyH_ready (rs := [10]) (by kernel_rfl) (by simp) ?_
      refine AllReadyH.cons rfl (fun K hK => ?_) AllReadyH.nil
      go_simp
      go_at_call 98; refine Calls.mono (HK.out _ _ HR.out.drew HC.out) ?_; rintro e w3 ⟨rfl, hb3, v3, who3, R3⟩; have HX := hide hb3; have HR3 := hide R3; clear hb3 R3
      go_wp2_with fail
      refine hK.out _ _ ⟨?_, trivial⟩ (fun hHeld => ?_)
      · rw [World.cell?_of_block (HX.out.block w.heap.size (by simp) HFar.out)]
        exact c1
      · clear hK K
        refine wpAnyH_done (by kernel_rfl) ?_ _
        go_wp2_with fail
        go_end0
        exact ⟨rfl, HB0.out.trans ((Only.drew _ _).trans HX.out), v3, who3, HR3.out⟩
end Go.Proofs.YteocmhbllckpjaaGreat
