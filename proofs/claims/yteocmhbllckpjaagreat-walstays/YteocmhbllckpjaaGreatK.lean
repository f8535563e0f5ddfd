/- What a disk is in memory: its cells, its map of files, its changes; and how that stays or turns. -/
import Derived.Test.YteocmhbllckpjaaGreatC
import Derived.Test.YteocmhbllckpjaaGreatI
namespace Go.Proofs.YteocmhbllckpjaaGreat
open Go.ChangeShapes Go.WideShapes Go.ChangeAt Go.RowKit
open Go.ChangeMaps (setBlock)
set_option linter.unusedVariables false

/-- A change. -/
structure Ch where
  name : ByteArray
  sector : Int
  size : Int
  data : List UInt8
def Ch.cells (c : Ch) : List Value := chg c.name c.sector c.size c.data
def chcells (l : List Ch) : List Value := l.flatMap Ch.cells

/-- A disk, with where its parts lie. -/
structure DS where
  mb : Nat
  cv : Value
  fs : List FL
  clock : Nat
  chs : List Ch
  room : Int
  fuse : Int
  steps : Int
  starts : Int
  down : Bool
abbrev DS.cells (D : DS) : Array Value := dcells D.mb D.cv D.room D.fuse D.steps D.starts D.down

/-- The disk D lies in w, its cells at block b, all from block 'base' on; 'who' tells of each of its blocks what it is for, so no two of them are one. -/
structure Rep (w : World) (base b : Nat) (D : DS) (who : Nat → Nat) : Prop where
  blk : Blk w b D.cells 76
  map : w.heap[D.mb]? = some (.map (ents D.fs) D.clock)
  born : ∀ f ∈ D.fs, f.born < D.clock
  nodup : (D.fs.map (·.born)).Nodup
  ent : ∀ f ∈ D.fs, Blk w f.eb #[f.sv, f.kv] 119
  osv : ∀ f ∈ D.fs, Own w base f.sv f.seen
  okv : ∀ f ∈ D.fs, Own w base f.kv f.kept
  ochs : w.ownsRow base 112 67 D.cv D.chs.length (chcells D.chs)
  c64 : ∀ c ∈ D.chs, c.data.length = 64
  lowb : base ≤ b
  lowm : base ≤ D.mb
  lowe : ∀ f ∈ D.fs, base ≤ f.eb
  wb : who b = 0
  wm : who D.mb = 1
  wc : ∀ g, D.cv.ownBlock = some g → who g = 2
  we : ∀ f ∈ D.fs, who f.eb = 3 + 3 * f.born
  ws : ∀ f ∈ D.fs, ∀ g, f.sv.ownBlock = some g → who g = 4 + 3 * f.born
  wk : ∀ f ∈ D.fs, ∀ g, f.kv.ownBlock = some g → who g = 5 + 3 * f.born

section
variable {w w' : World} {base b : Nat} {D : DS} {who : Nat → Nat}

theorem Rep.base_le (R : Rep w base b D who) : base ≤ w.heap.size := Nat.le_trans R.lowb (Nat.le_of_lt R.blk.lt)
theorem Rep.mlt (R : Rep w base b D who) : D.mb < w.heap.size := (Array.getElem?_eq_some_iff.1 R.map).1

theorem own_lt {e : TypeId} {size : Nat} {v : Value} {n : Nat} {xs : List Value} (h : w.ownsRow base e size v n xs) : ∀ g, v.ownBlock = some g → base ≤ g ∧ g < w.heap.size := fun g hg => h.lt g hg

/-- Other blocks have turned. -/
theorem Rep.only (R : Rep w base b D who) {S : List Nat} (h : Only S w w') (hb : b ∉ S) (hm : D.mb ∉ S) (hc : ∀ g, D.cv.ownBlock = some g → g ∉ S) (he : ∀ f ∈ D.fs, f.eb ∉ S) (hs : ∀ f ∈ D.fs, ∀ g, f.sv.ownBlock = some g → g ∉ S) (hk : ∀ f ∈ D.fs, ∀ g, f.kv.ownBlock = some g → g ∉ S) :
    Rep w' base b D who :=
  { R with
    blk := h.blk R.blk hb
    map := h.blk R.map hm
    ent := fun f hf => h.blk (R.ent f hf) (he f hf)
    osv := fun f hf => ownsRow_only (R.osv f hf) h (hs f hf)
    okv := fun f hf => ownsRow_only (R.okv f hf) h (hk f hf)
    ochs := ownsRow_only R.ochs h hc }

theorem Rep.keep (R : Rep w base b D who) (h : w.grownBy w' none) : Rep w' base b D who :=
  R.only (Only.of_grown h) (by simp) (by simp) (fun _ _ => by simp) (fun _ _ => by simp) (fun _ _ _ _ => by simp) (fun _ _ _ _ => by simp)

theorem Rep.drew (R : Rep w base b D who) : Rep w.drew base b D who := R.keep ⟨rfl, rfl, rfl, Nat.le_refl _, fun _ _ _ => rfl⟩

/-- The disk's own cells have turned. -/
theorem Rep.setD (R : Rep w base b D who) (h : Only [b] w w') (D' : DS) (h1 : D'.mb = D.mb) (h2 : D'.cv = D.cv) (h3 : D'.fs = D.fs) (h4 : D'.clock = D.clock) (h5 : D'.chs = D.chs) (hb : Blk w' b D'.cells 76) : Rep w' base b D' who := by
  have nb : ∀ g, who g ≠ 0 → g ∉ [b] := fun g hg he => by simp at he; rw [he, R.wb] at hg; exact hg rfl
  refine
    { blk := hb, map := by rw [h1, h3, h4]; exact h.blk R.map (nb _ (by rw [R.wm]; omega)), born := by rw [h3, h4]; exact R.born, nodup := by rw [h3]; exact R.nodup
      ent := by rw [h3]; exact fun f hf => h.blk (R.ent f hf) (nb _ (by rw [R.we f hf]; omega))
      osv := by rw [h3]; exact fun f hf => ownsRow_only (R.osv f hf) h (fun g hg => nb _ (by rw [R.ws f hf g hg]; omega))
      okv := by rw [h3]; exact fun f hf => ownsRow_only (R.okv f hf) h (fun g hg => nb _ (by rw [R.wk f hf g hg]; omega))
      ochs := by rw [h2, h5]; exact ownsRow_only R.ochs h (fun g hg => nb _ (by rw [R.wc g hg]; omega))
      c64 := by rw [h5]; exact R.c64
      lowb := R.lowb, lowm := by rw [h1]; exact R.lowm, lowe := by rw [h3]; exact R.lowe, wb := R.wb, wm := by rw [h1]; exact R.wm, wc := by rw [h2]; exact R.wc, we := by rw [h3]; exact R.we, ws := by rw [h3]; exact R.ws, wk := by rw [h3]; exact R.wk }

/-- The row of the changes has turned: a new slice, in the old row or in a new one. -/
theorem Rep.setC (R : Rep w base b D who) {g : Nat} (hg : D.cv.ownBlock = some g ∨ w.heap.size ≤ g) (h' : Only (b :: D.cv.ownBlock.toList) w w') (v' : Value) (hv : v'.ownBlock = some g) (chs : List Ch)
    (hb : Blk w' b { D with cv := v', chs := chs }.cells 76) (ho : w'.ownsRow base 112 67 v' chs.length (chcells chs)) (hc : ∀ c ∈ chs, c.data.length = 64) :
    Rep w' base b { D with cv := v', chs := chs } (fun k => if k = g then 2 else who k) := by
  have ng : ∀ k, k < w.heap.size → who k ≠ 2 → k ≠ g := fun k hk h2 e => by
    rcases hg with hg | hg
    · rw [e, R.wc g hg] at h2; exact h2 rfl
    · omega
  have nS : ∀ k, who k ≠ 0 → who k ≠ 2 → k ∉ b :: D.cv.ownBlock.toList := fun k h0 h2 hm => by
    rcases List.mem_cons.1 hm with rfl | hm
    · exact h0 R.wb
    · exact h2 (R.wc k (by simpa using hm))
  refine
    { blk := hb, map := h'.blk R.map (nS _ (by rw [R.wm]; omega) (by rw [R.wm]; omega)), born := R.born, nodup := R.nodup
      ent := fun f hf => h'.blk (R.ent f hf) (nS _ (by rw [R.we f hf]; omega) (by rw [R.we f hf]; omega))
      osv := fun f hf => ownsRow_only (R.osv f hf) h' (fun k hk => nS _ (by rw [R.ws f hf k hk]; omega) (by rw [R.ws f hf k hk]; omega))
      okv := fun f hf => ownsRow_only (R.okv f hf) h' (fun k hk => nS _ (by rw [R.wk f hf k hk]; omega) (by rw [R.wk f hf k hk]; omega))
      ochs := ho, c64 := hc, lowb := R.lowb, lowm := R.lowm, lowe := R.lowe
      wb := by rw [if_neg (ng b R.blk.lt (by rw [R.wb]; omega))]; exact R.wb
      wm := by show (if D.mb = g then 2 else who D.mb) = 1; rw [if_neg (ng _ R.mlt (by rw [R.wm]; omega))]; exact R.wm
      wc := fun k hk => by have : k = g := by rw [hv] at hk; exact (Option.some.inj hk).symm
                           rw [if_pos this]
      we := fun f hf => by rw [if_neg (ng _ (R.ent f hf).lt (by rw [R.we f hf]; omega))]; exact R.we f hf
      ws := fun f hf k hk => by rw [if_neg (ng _ (own_lt (R.osv f hf) k hk).2 (by rw [R.ws f hf k hk]; omega))]; exact R.ws f hf k hk
      wk := fun f hf k hk => by rw [if_neg (ng _ (own_lt (R.okv f hf) k hk).2 (by rw [R.wk f hf k hk]; omega))]; exact R.wk f hf k hk }

/-- One file turned. -/
def upd (fs : List FL) (i : Nat) (g : FL → FL) : List FL := fs.map fun f => if f.born = i then g f else f

theorem mem_upd {fs : List FL} {i : Nat} {g : FL → FL} {f' : FL} (h : f' ∈ upd fs i g) : ∃ f ∈ fs, (f.born = i ∧ f' = g f) ∨ (f.born ≠ i ∧ f' = f) := by
  simp only [upd, List.mem_map] at h
  obtain ⟨f, hf, rfl⟩ := h
  by_cases e : f.born = i
  · exact ⟨f, hf, .inl ⟨e, by rw [if_pos e]⟩⟩
  · exact ⟨f, hf, .inr ⟨e, by rw [if_neg e]⟩⟩

theorem ents_upd {fs : List FL} {i : Nat} {g : FL → FL} (hg : ∀ f, (g f).ent = f.ent) : ents (upd fs i g) = ents fs := by
  simp only [ents, upd, List.map_map]
  congr 1
  apply List.map_congr_left
  intro f hf
  simp only [Function.comp]
  split
  · exact hg f
  · rfl

theorem FL.inj {fs : List FL} (hn : (fs.map (·.born)).Nodup) {x y : FL} (hx : x ∈ fs) (hy : y ∈ fs) (h : x.born = y.born) : x = y := by
  induction fs with
  | nil => cases hx
  | cons a l ih =>
    have hn' : a.born ∉ l.map (·.born) ∧ (l.map (·.born)).Nodup := List.nodup_cons.1 hn
    rcases List.mem_cons.1 hx with rfl | hx' <;> rcases List.mem_cons.1 hy with rfl | hy'
    · rfl
    · exact absurd (List.mem_map.2 ⟨y, hy', h.symm⟩) hn'.1
    · exact absurd (List.mem_map.2 ⟨x, hx', h⟩) hn'.1
    · exact ih hn'.2 hx' hy'

theorem born_upd {fs : List FL} {i : Nat} {g : FL → FL} (hg : ∀ f, (g f).born = f.born) : (upd fs i g).map (·.born) = fs.map (·.born) := by
  simp only [upd, List.map_map]
  apply List.map_congr_left
  intro f hf
  simp only [Function.comp]
  split
  · exact hg f
  · rfl

/-- What is seen of one file has turned. -/
theorem Rep.setS (R : Rep w base b D who) {f0 : FL} (hf0 : f0 ∈ D.fs) (v' : Value) (l' : List UInt8) {g : Nat} (hv : v'.ownBlock = some g) (hg : f0.sv.ownBlock = some g ∨ w.heap.size ≤ g)
    (h' : Only (f0.eb :: f0.sv.ownBlock.toList) w w') (hb : Blk w' f0.eb #[v', f0.kv] 119) (ho : Own w' base v' l') :
    Rep w' base b { D with fs := upd D.fs f0.born fun f => { f with sv := v', seen := l' } } (fun k => if k = g then 4 + 3 * f0.born else who k) := by
  have hwf := R.we f0 hf0
  have ng : ∀ k, k < w.heap.size → who k ≠ 4 + 3 * f0.born → k ≠ g := fun k hk h2 e => by
    rcases hg with hg | hg
    · rw [e, R.ws f0 hf0 g hg] at h2; exact h2 rfl
    · omega
  have nS : ∀ k, who k ≠ 3 + 3 * f0.born → who k ≠ 4 + 3 * f0.born → k ∉ f0.eb :: f0.sv.ownBlock.toList := fun k h0 h2 hm => by
    rcases List.mem_cons.1 hm with rfl | hm
    · exact h0 hwf
    · exact h2 (R.ws f0 hf0 k (by simpa using hm))
  have key : ∀ f' ∈ upd D.fs f0.born (fun f => { f with sv := v', seen := l' }), (f' = { f0 with sv := v', seen := l' }) ∨ (f' ∈ D.fs ∧ f'.born ≠ f0.born) := fun f' hf' => by
    obtain ⟨f, hf, ⟨e, rfl⟩ | ⟨e, rfl⟩⟩ := mem_upd hf'
    · have : f = f0 := FL.inj R.nodup hf hf0 e
      subst this; exact .inl rfl
    · exact .inr ⟨hf, e⟩
  refine
    { blk := h'.blk R.blk (nS _ (by rw [R.wb]; omega) (by rw [R.wb]; omega))
      map := by
        show w'.heap[D.mb]? = some (.map (ents (upd D.fs f0.born _)) D.clock)
        rw [ents_upd (g := fun f => { f with sv := v', seen := l' }) (fun f => rfl)]; exact h'.blk R.map (nS _ (by rw [R.wm]; omega) (by rw [R.wm]; omega))
      born := fun f' hf' => by
        rcases key f' hf' with rfl | ⟨hf, _⟩
        · exact R.born f0 hf0
        · exact R.born f' hf
      nodup := by show ((upd D.fs f0.born _).map (·.born)).Nodup; rw [born_upd (g := fun f => { f with sv := v', seen := l' }) (fun f => rfl)]; exact R.nodup
      ent := fun f' hf' => by
        rcases key f' hf' with rfl | ⟨hf, e⟩
        · exact hb
        · exact h'.blk (R.ent f' hf) (nS _ (by rw [R.we f' hf]; omega) (by rw [R.we f' hf]; omega))
      osv := fun f' hf' => by
        rcases key f' hf' with rfl | ⟨hf, e⟩
        · exact ho
        · exact ownsRow_only (R.osv f' hf) h' (fun k hk => nS _ (by rw [R.ws f' hf k hk]; omega) (by rw [R.ws f' hf k hk]; omega))
      okv := fun f' hf' => by
        rcases key f' hf' with rfl | ⟨hf, e⟩
        · exact ownsRow_only (R.okv f0 hf0) h' (fun k hk => nS _ (by rw [R.wk f0 hf0 k hk]; omega) (by rw [R.wk f0 hf0 k hk]; omega))
        · exact ownsRow_only (R.okv f' hf) h' (fun k hk => nS _ (by rw [R.wk f' hf k hk]; omega) (by rw [R.wk f' hf k hk]; omega))
      ochs := ownsRow_only R.ochs h' (fun k hk => nS _ (by rw [R.wc k hk]; omega) (by rw [R.wc k hk]; omega))
      c64 := R.c64, lowb := R.lowb, lowm := R.lowm
      lowe := fun f' hf' => by
        rcases key f' hf' with rfl | ⟨hf, _⟩
        · exact R.lowe f0 hf0
        · exact R.lowe f' hf
      wb := by rw [if_neg (ng b R.blk.lt (by rw [R.wb]; omega))]; exact R.wb
      wm := by show (if D.mb = g then _ else who D.mb) = 1; rw [if_neg (ng _ R.mlt (by rw [R.wm]; omega))]; exact R.wm
      wc := fun k hk => by rw [if_neg (ng _ (own_lt R.ochs k hk).2 (by rw [R.wc k hk]; omega))]; exact R.wc k hk
      we := fun f' hf' => by
        rcases key f' hf' with rfl | ⟨hf, e⟩
        · show (if f0.eb = g then _ else who f0.eb) = _; rw [if_neg (ng _ (R.ent f0 hf0).lt (by rw [hwf]; omega))]; exact hwf
        · rw [if_neg (ng _ (R.ent f' hf).lt (by rw [R.we f' hf]; omega))]; exact R.we f' hf
      ws := fun f' hf' k hk => by
        rcases key f' hf' with rfl | ⟨hf, e⟩
        · have : k = g := by have hk' : v'.ownBlock = some k := hk; rw [hv] at hk'; exact (Option.some.inj hk').symm
          rw [if_pos this]
        · rw [if_neg (ng _ (own_lt (R.osv f' hf) k hk).2 (by rw [R.ws f' hf k hk]; omega))]; exact R.ws f' hf k hk
      wk := fun f' hf' k hk => by
        rcases key f' hf' with rfl | ⟨hf, e⟩
        · have hk' : f0.kv.ownBlock = some k := hk
          rw [if_neg (ng _ (own_lt (R.okv f0 hf0) k hk').2 (by rw [R.wk f0 hf0 k hk']; omega))]; exact R.wk f0 hf0 k hk'
        · rw [if_neg (ng _ (own_lt (R.okv f' hf) k hk).2 (by rw [R.wk f' hf k hk]; omega))]; exact R.wk f' hf k hk }

/-- A new file in the map. -/
theorem Rep.newF (R : Rep w base b D who) (nm : ByteArray) :
    Rep (setBlock (w.alloc (.cells #[.slice none 0 0, .slice none 0 0] 119)) D.mb (.map (ents (D.fs ++ [FL.fresh nm w.heap.size D.clock])) (D.clock + 1))) base b
      { D with fs := D.fs ++ [FL.fresh nm w.heap.size D.clock], clock := D.clock + 1 } (fun k => if k = w.heap.size then 3 + 3 * D.clock else who k) := by
  have hO : Only [D.mb] w (setBlock (w.alloc (.cells #[.slice none 0 0, .slice none 0 0] 119)) D.mb (.map (ents (D.fs ++ [FL.fresh nm w.heap.size D.clock])) (D.clock + 1))) :=
    (Only.alloc w _ [D.mb]).trans (Only.setBlock _ _ _)
  have hm1 : (w.alloc (.cells #[.slice none 0 0, .slice none 0 0] 119)).heap[D.mb]? = some (.map (ents D.fs) D.clock) := (Below.heap_alloc _ _ _ R.mlt).trans R.map
  have hnew : (setBlock (w.alloc (.cells #[.slice none 0 0, .slice none 0 0] 119)) D.mb (.map (ents (D.fs ++ [FL.fresh nm w.heap.size D.clock])) (D.clock + 1))).heap[w.heap.size]? = some (.cells #[.slice none 0 0, .slice none 0 0] 119 (0, 0)) :=
    (setBlock_other _ (by have := R.mlt; omega)).trans (alloc_new _ _)
  have hmap : (setBlock (w.alloc (.cells #[.slice none 0 0, .slice none 0 0] 119)) D.mb (.map (ents (D.fs ++ [FL.fresh nm w.heap.size D.clock])) (D.clock + 1))).heap[D.mb]? = some (.map (ents (D.fs ++ [FL.fresh nm w.heap.size D.clock])) (D.clock + 1)) := setBlock_same hm1
  generalize setBlock (w.alloc (.cells #[.slice none 0 0, .slice none 0 0] 119)) D.mb (.map (ents (D.fs ++ [FL.fresh nm w.heap.size D.clock])) (D.clock + 1)) = W at hO hnew hmap
  have nS : ∀ k, who k ≠ 1 → k ∉ [D.mb] := fun k h0 hm => by simp at hm; rw [hm] at h0; exact h0 R.wm
  have key : ∀ f' ∈ D.fs ++ [FL.fresh nm w.heap.size D.clock], f' = FL.fresh nm w.heap.size D.clock ∨ f' ∈ D.fs := fun f' hf' => by
    rcases List.mem_append.1 hf' with h | h
    · exact .inr h
    · exact .inl (by simpa using h)
  refine
    { blk := hO.blk R.blk (nS _ (by rw [R.wb]; omega)), map := hmap
      born := fun f' hf' => by
        rcases key f' hf' with rfl | hf
        · exact Nat.lt_succ_self _
        · exact Nat.lt_succ_of_lt (R.born f' hf)
      nodup := by
        show ((D.fs ++ [FL.fresh nm w.heap.size D.clock]).map (·.born)).Nodup
        rw [List.map_append, List.nodup_append]
        refine ⟨R.nodup, by simp, ?_⟩
        intro a ha c hc
        simp only [List.mem_map] at ha
        obtain ⟨f, hf, rfl⟩ := ha
        simp [FL.fresh] at hc
        have := R.born f hf
        omega
      ent := fun f' hf' => by
        rcases key f' hf' with rfl | hf
        · exact hnew
        · exact hO.blk (R.ent f' hf) (nS _ (by rw [R.we f' hf]; omega))
      osv := fun f' hf' => by
        rcases key f' hf' with rfl | hf
        · exact World.ownsRow_nil _ _ _ _
        · exact ownsRow_only (R.osv f' hf) hO (fun k hk => nS _ (by rw [R.ws f' hf k hk]; omega))
      okv := fun f' hf' => by
        rcases key f' hf' with rfl | hf
        · exact World.ownsRow_nil _ _ _ _
        · exact ownsRow_only (R.okv f' hf) hO (fun k hk => nS _ (by rw [R.wk f' hf k hk]; omega))
      ochs := ownsRow_only R.ochs hO (fun k hk => nS _ (by rw [R.wc k hk]; omega))
      c64 := R.c64, lowb := R.lowb, lowm := R.lowm
      lowe := fun f' hf' => by
        rcases key f' hf' with rfl | hf
        · exact R.base_le
        · exact R.lowe f' hf
      wb := by rw [if_neg (Nat.ne_of_lt R.blk.lt)]; exact R.wb
      wm := by show (if D.mb = _ then _ else who D.mb) = 1; rw [if_neg (Nat.ne_of_lt R.mlt)]; exact R.wm
      wc := fun k hk => by rw [if_neg (Nat.ne_of_lt (own_lt R.ochs k hk).2)]; exact R.wc k hk
      we := fun f' hf' => by
        rcases key f' hf' with rfl | hf
        · show (if w.heap.size = w.heap.size then _ else _) = _; rw [if_pos rfl]; rfl
        · rw [if_neg (Nat.ne_of_lt (R.ent f' hf).lt)]; exact R.we f' hf
      ws := fun f' hf' k hk => by
        rcases key f' hf' with rfl | hf
        · simp [FL.fresh, Value.ownBlock] at hk
        · rw [if_neg (Nat.ne_of_lt (own_lt (R.osv f' hf) k hk).2)]; exact R.ws f' hf k hk
      wk := fun f' hf' k hk => by
        rcases key f' hf' with rfl | hf
        · simp [FL.fresh, Value.ownBlock] at hk
        · rw [if_neg (Nat.ne_of_lt (own_lt (R.okv f' hf) k hk).2)]; exact R.wk f' hf k hk }
end

set_option maxRecDepth 100000 in
theorem info75' : (Tryz.prog.info? 112).map (fun i => (i.zero, i.size, i.bytes)) = some (some (.agg (chg ⟨#[]⟩ 0 0 (List.replicate 64 0)).toArray), 67, 96) := by kernel_rfl
theorem info75 : ∃ i, Tryz.prog.info? 112 = some i ∧ i.zero = some (.agg (chg ⟨#[]⟩ 0 0 (List.replicate 64 0)).toArray) ∧ i.size = 67 ∧ i.bytes = 96 := infoOf info75'
end Go.Proofs.YteocmhbllckpjaaGreat
