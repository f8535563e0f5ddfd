/- The files of a disk that is being copied. -/
import Derived.Test.YtefcconbpomedaaW9
namespace Go.Proofs.Ytefcconbpomedaa
open Go.ChangeShapes Go.WideShapes Go.ChangeAt Go.RowKit
open Go.ChangeMaps (setBlock)
set_option linter.unusedVariables false

/-- Files lie in w, their map at block mb. -/
structure Fls (w : World) (base mb : Nat) (fs : List FL) (clock : Nat) (who : Nat → Nat) : Prop where
  map : w.heap[mb]? = some (.map (ents fs) clock)
  born : ∀ f ∈ fs, f.born < clock
  nodup : (fs.map (·.born)).Nodup
  ent : ∀ f ∈ fs, Blk w f.eb #[f.sv, f.kv] 78
  osv : ∀ f ∈ fs, Own w base f.sv f.seen
  okv : ∀ f ∈ fs, Own w base f.kv f.kept
  lowm : base ≤ mb
  lowe : ∀ f ∈ fs, base ≤ f.eb
  wm : who mb = 1
  we : ∀ f ∈ fs, who f.eb = 3 + 3 * f.born
  ws : ∀ f ∈ fs, ∀ g, f.sv.ownBlock = some g → who g = 4 + 3 * f.born
  wk : ∀ f ∈ fs, ∀ g, f.kv.ownBlock = some g → who g = 5 + 3 * f.born
section
variable {w w' : World} {base mb : Nat} {fs : List FL} {clock : Nat} {who : Nat → Nat}
theorem Fls.mlt (F : Fls w base mb fs clock who) : mb < w.heap.size := (Array.getElem?_eq_some_iff.1 F.map).1
/-- Other blocks have turned. -/
theorem Fls.only (F : Fls w base mb fs clock who) {I : Nat} (h : Only [I] w w') (hm : mb ≠ I) (he : ∀ f ∈ fs, f.eb ≠ I) (hs : ∀ f ∈ fs, ∀ g, f.sv.ownBlock = some g → g ≠ I) (hk : ∀ f ∈ fs, ∀ g, f.kv.ownBlock = some g → g ≠ I) : Fls w' base mb fs clock who :=
  { F with
    map := h.blk F.map (by simpa using hm)
    ent := fun f hf => h.blk (F.ent f hf) (by simpa using he f hf)
    osv := fun f hf => ownsRow_only (F.osv f hf) h (fun g hg => by simpa using hs f hf g hg)
    okv := fun f hf => ownsRow_only (F.okv f hf) h (fun g hg => by simpa using hk f hf g hg) }
/-- A walk over a map is none of the files' blocks. -/
theorem Fls.iter (F : Fls w base mb fs clock who) {I : Nat} {m : Option Nat} {x y : Nat} {s : Array Nat} (hi : w.heap[I]? = some (.mapIter m x s y)) (h : Only [I] w w') : Fls w' base mb fs clock who := by
  have hn : ∀ k c t, Blk w k c t → k ≠ I := fun k c t hk e => by
    have hk' : w.heap[k]? = some (.cells c t (0, 0)) := hk
    rw [e, hi] at hk'
    cases hk'
  have ho : ∀ {e : TypeId} {size : Nat} {v : Value} {n : Nat} {xs : List Value}, w.ownsRow base e size v n xs → ∀ g, v.ownBlock = some g → g ≠ I := fun hr g hg => by
    rcases hr.2 with ⟨hv, _⟩ | ⟨g', cap, cur, hv, _, hgb, _⟩
    · rw [hv] at hg; cases hg
    · rw [hv] at hg
      have e : g' = g := by simpa [Value.ownBlock] using hg
      subst e
      exact hn _ _ _ hgb
  exact F.only h (fun e => by have hk' := F.map; rw [e, hi] at hk'; cases hk') (fun f hf => hn _ _ _ (F.ent f hf)) (fun f hf => ho (F.osv f hf)) (fun f hf => ho (F.okv f hf))
theorem Fls.keep (F : Fls w base mb fs clock who) (h : w.grownBy w' none) : Fls w' base mb fs clock who := by
  have hO : Only [w.heap.size] w w' := (Only.of_grown h).mono (by simp)
  exact F.only hO (by have := F.mlt; omega) (fun f hf => by have := (F.ent f hf).lt; omega) (fun f hf g hg => by have := (own_lt (F.osv f hf) g hg).2; omega) (fun f hf g hg => by have := (own_lt (F.okv f hf) g hg).2; omega)
/-- A file more. -/
theorem Fls.add (F : Fls w base mb fs clock who) (hbase : base ≤ w.heap.size) (h : w.grownBy w' none) (nm : ByteArray) (sv kv : Value) (seen kept : List UInt8) (hb : Blk w' w.heap.size #[sv, kv] 78) (hs : Own w' base sv seen) (hk : Own w' base kv kept)
    (ls : ∀ g, sv.ownBlock = some g → w.heap.size < g) (lk : ∀ g, kv.ownBlock = some g → w.heap.size < g ∧ sv.ownBlock ≠ some g) :
    ∃ who', Fls (setBlock w' mb (.map (ents (fs ++ [⟨nm, w.heap.size, clock, sv, kv, seen, kept⟩])) (clock + 1))) base mb (fs ++ [⟨nm, w.heap.size, clock, sv, kv, seen, kept⟩]) (clock + 1) who' := by
  have F1 := F.keep h
  have hm := F.mlt
  have hO : Only [mb] w' (setBlock w' mb (.map (ents (fs ++ [⟨nm, w.heap.size, clock, sv, kv, seen, kept⟩])) (clock + 1))) := Only.setBlock _ _ _
  have nt : ∀ k, who k ≠ 1 → k ∉ [mb] := fun k hk e => by have e' : k = mb := (by simpa using e); rw [e', F.wm] at hk; exact hk rfl
  refine ⟨fun k => if k < w.heap.size then who k else if k = w.heap.size then 3 + 3 * clock else if sv.ownBlock = some k then 4 + 3 * clock else 5 + 3 * clock, ?_⟩
  have mem : ∀ {f : FL}, f ∈ fs ++ [(⟨nm, w.heap.size, clock, sv, kv, seen, kept⟩ : FL)] → f ∈ fs ∨ f = ⟨nm, w.heap.size, clock, sv, kv, seen, kept⟩ := fun h => by simpa using h
  exact
    { map := setBlock_same F1.map
      born := fun f hf => by
        rcases mem hf with hf | rfl
        · have := F.born f hf; omega
        · exact Nat.lt_succ_self _
      nodup := by
        rw [List.map_append, List.nodup_append]
        refine ⟨F.nodup, by simp, fun a ha c hc => ?_⟩
        obtain ⟨f, hf, rfl⟩ := List.mem_map.1 ha
        have := F.born f hf
        simp at hc
        omega
      ent := fun f hf => by
        rcases mem hf with hf | rfl
        · exact hO.blk (F1.ent f hf) (nt _ (by rw [F.we f hf]; omega))
        · exact hO.blk hb (by simp; omega)
      osv := fun f hf => by
        rcases mem hf with hf | rfl
        · exact ownsRow_only (F1.osv f hf) hO (fun g hg => nt _ (by rw [F.ws f hf g hg]; omega))
        · exact ownsRow_only hs hO (fun g hg => by have := ls g hg; simp; omega)
      okv := fun f hf => by
        rcases mem hf with hf | rfl
        · exact ownsRow_only (F1.okv f hf) hO (fun g hg => nt _ (by rw [F.wk f hf g hg]; omega))
        · exact ownsRow_only hk hO (fun g hg => by have := (lk g hg).1; simp; omega)
      lowm := F.lowm
      lowe := fun f hf => by
        rcases mem hf with hf | rfl
        · exact F.lowe f hf
        · exact hbase
      wm := by rw [if_pos hm]; exact F.wm
      we := fun f hf => by
        rcases mem hf with hf | rfl
        · rw [if_pos (F.ent f hf).lt]; exact F.we f hf
        · rw [if_neg (Nat.lt_irrefl _), if_pos rfl]
      ws := fun f hf g hg => by
        rcases mem hf with hf | rfl
        · rw [if_pos (own_lt (F.osv f hf) g hg).2]; exact F.ws f hf g hg
        · have := ls g hg
          have hg' : sv.ownBlock = some g := hg
          rw [if_neg (by omega), if_neg (by omega), if_pos hg']
      wk := fun f hf g hg => by
        rcases mem hf with hf | rfl
        · rw [if_pos (own_lt (F.okv f hf) g hg).2]; exact F.wk f hf g hg
        · have := lk g hg
          rw [if_neg (by omega), if_neg (by omega), if_neg this.2] }
/-- The files, the changes and the cells are a disk. -/
theorem Fls.rep (F : Fls w base mb fs clock who) (h : w.grownBy w' none) (b : Nat) (D : DS) (hm : D.mb = mb) (hf : D.fs = fs) (hc : D.clock = clock) (hb : Blk w' b D.cells 63) (hlb : base ≤ b) (hbw : w.heap.size ≤ b) (ho : w'.ownsRow base 75 67 D.cv D.chs.length (chcells D.chs)) (h64 : ∀ c ∈ D.chs, c.data.length = 64)
    (hv : ∀ g, D.cv.ownBlock = some g → w.heap.size ≤ g ∧ g ≠ b) : ∃ who', Rep w' base b D who' := by
  subst hm hf hc
  have F1 := F.keep h
  have key : ∀ k, k < w.heap.size → (if k = b then 0 else if D.cv.ownBlock = some k then 2 else who k) = who k := fun k hk => by
    rw [if_neg (by omega), if_neg (fun e => by have := (hv k e).1; omega)]
  exact ⟨fun k => if k = b then 0 else if D.cv.ownBlock = some k then 2 else who k,
    { blk := hb, map := F1.map, born := F.born, nodup := F.nodup, ent := F1.ent, osv := F1.osv, okv := F1.okv, ochs := ho, c64 := h64, lowb := hlb, lowm := F.lowm, lowe := F.lowe
      wb := by rw [if_pos rfl]
      wm := by rw [key _ F.mlt]; exact F.wm
      wc := fun g hg => by rw [if_neg (hv g hg).2, if_pos hg]
      we := fun f hf => by rw [key _ (F.ent f hf).lt]; exact F.we f hf
      ws := fun f hf g hg => by rw [key _ (own_lt (F.osv f hf) g hg).2]; exact F.ws f hf g hg
      wk := fun f hf g hg => by rw [key _ (own_lt (F.okv f hf) g hg).2]; exact F.wk f hf g hg }⟩
end
/-- Between two rounds of a copy. -/
structure CopI (D : DS) (seen : Array Nat) (fs : List FL) : Prop where
  from_ : ∀ f' ∈ fs, ∃ f ∈ D.fs, seen.contains f.born = true ∧ f.name = f'.name ∧ f.seen = f'.seen ∧ f.kept = f'.kept
  all_ : ∀ f ∈ D.fs, seen.contains f.born = true → ∃ f' ∈ fs, f'.name = f.name
  uniq : Uniq fs
theorem CopI.none_ {D : DS} {seen : Array Nat} {fs : List FL} (h : CopI D seen fs) (hU : Uniq D.fs) {f : FL} (hf : f ∈ D.fs) (hs : seen.contains f.born = false) : look fs f.name = none := by
  cases hl : look fs f.name with
  | none => rfl
  | some g =>
    obtain ⟨h1, h2⟩ := look_some hl
    obtain ⟨x, hx, h3, h4, _⟩ := h.from_ g h1
    have e1 := hU x hx
    rw [h4, ← h2, hU f hf] at e1
    cases e1
    rw [hs] at h3
    cases h3
theorem CopI.step {D : DS} {seen : Array Nat} {fs : List FL} (h : CopI D seen fs) (hU : Uniq D.fs) (hn : (D.fs.map (·.born)).Nodup) {f : FL} (hf : f ∈ D.fs) (hs : seen.contains f.born = false) (eb born : Nat) (sv kv : Value) : CopI D (seen.push f.born) (fs ++ [⟨f.name, eb, born, sv, kv, f.seen, f.kept⟩]) := by
  have hno := h.none_ hU hf hs
  refine ⟨fun f' hf' => ?_, fun x hx hsx => ?_, fun f' hf' => ?_⟩
  · rcases List.mem_append.1 hf' with hf' | hf'
    · obtain ⟨x, hx, h3, h4⟩ := h.from_ f' hf'
      exact ⟨x, hx, by simp at h3 ⊢; exact .inl h3, h4⟩
    · obtain rfl := List.mem_singleton.1 hf'
      exact ⟨f, hf, by simp, rfl, rfl, rfl⟩
  · rcases contains_push hsx with h1 | h1
    · obtain ⟨f', h2, h3⟩ := h.all_ x hx h1
      exact ⟨f', List.mem_append_left _ h2, h3⟩
    · obtain rfl : x = f := FL.inj hn hx hf h1
      exact ⟨_, List.mem_append_right _ (List.mem_singleton.2 rfl), rfl⟩
  · rcases List.mem_append.1 hf' with hf' | hf'
    · have := h.uniq f' hf'
      unfold look at this ⊢
      rw [List.find?_append, this]
      rfl
    · obtain rfl := List.mem_singleton.1 hf'
      exact look_snoc _ _ _ hno (bytes_beq f.name)
/-- One disk is a copy of another. -/
structure CopyOf (D D' : DS) : Prop where
  chs : D'.chs = D.chs
  room : D'.room = D.room
  fuse : D'.fuse = D.fuse
  steps : D'.steps = D.steps
  starts : D'.starts = D.starts
  down : D'.down = D.down
  from_ : ∀ f' ∈ D'.fs, ∃ f ∈ D.fs, f.name = f'.name ∧ f.seen = f'.seen ∧ f.kept = f'.kept
  all_ : ∀ f ∈ D.fs, ∃ f' ∈ D'.fs, f'.name = f.name
  uniq : Uniq D'.fs
end Go.Proofs.Ytefcconbpomedaa
