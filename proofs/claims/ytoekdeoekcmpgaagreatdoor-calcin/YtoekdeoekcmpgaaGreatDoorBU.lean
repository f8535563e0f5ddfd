/- Package calc: what Binary makes of two values at each operator behind arithmetic. -/
/- Package calc: Binary of arithmetic on any values; the document's Compare, Logic. -/
import Derived.Test.YtoekdeoekcmpgaaGreatDoorBS
import Derived.Test.YtoekdeoekcmpgaaGreatDoorKL3
namespace Go.Proofs.YtoekdeoekcmpgaaGreatDoor
open Go.ChangeShapes Go.WideShapes Go.ChangeAt Go.RowKit
set_option linter.unusedVariables false

/-- Where one is NULL, NULL. -/
def nulV (k k2 : Int) (v : Value) : Value := if k = 0 ∨ k2 = 0 then val 0 0 ⟨#[]⟩ else v

theorem bin_concat (c k n : Int) (t : ByteArray) (k2 n2 : Int) (t2 : ByteArray) (h0 : -9223372036854775808 ≤ n) (h1 : n ≤ 9223372036854775807) (g0 : -9223372036854775808 ≤ n2) (g1 : n2 ≤ 9223372036854775807) (hm1 : mayB k n t = true) (hm2 : mayB k2 n2 t2 = true) (w : World) (hE : Env w) :
    Calls Tryz.prog 18 #[.int .i64 12, val k n t, val k2 n2 t2, .int .i64 c] w fun e w' => e = .returned (.tuple #[nulV k k2 (textV (showT k n t ++ showT k2 n2 t2)), .int .i64 0]) ∧ Below w.heap.size w w' := by
  unfold nulV
  by_cases hk : k = 0
  · subst hk
    rw [if_pos (.inl rfl)]
    exact binary_un 12 c (fun W p => W.cell? ⟨p, 0, none⟩ = some (.func (.func 82) #[] #[])) 0 n t k2 n2 t2 hm1 hm2 0 0 ⟨#[]⟩ (fun V => ofTwo_concat c V) (fun V W p h hb => cell_later hb h) (fun V p hV h => nullA_walk k2 n2 t2 n t p V) w hE
  by_cases hk2 : k2 = 0
  · subst hk2
    rw [if_pos (.inr rfl)]
    exact binary_un 12 c (fun W p => W.cell? ⟨p, 0, none⟩ = some (.func (.func 82) #[] #[])) k n t 0 n2 t2 hm1 hm2 0 0 ⟨#[]⟩ (fun V => ofTwo_concat c V) (fun V W p h hb => cell_later hb h) (fun V p hV h => nullB_walk k n t n2 t2 p V) w hE
  rw [if_neg (by omega)]
  obtain ⟨c1, c2, c3, hc⟩ := textV_val (showT k n t ++ showT k2 n2 t2)
  rw [hc]
  refine binary_un 12 c (fun W p => W.cell? ⟨p, 0, none⟩ = some (.func (.func 82) #[] #[])) k n t k2 n2 t2 hm1 hm2 c1 c2 c3 (fun V => ofTwo_concat c V) (fun V W p h hb => cell_later hb h) (fun V p hV h => ?_) w hE
  exact un_text k n t k2 n2 t2 (by simpa using hk) (by simpa using hk2) c1 c2 c3 p V h (fun U hU => by rw [← hc]; exact concat_walk k n t k2 n2 t2 h0 h1 g0 g1 hm1 hm2 hk hk2 U (hV.below hU))

theorem bin_eq (c k n : Int) (t : ByteArray) (k2 n2 : Int) (t2 : ByteArray) (hm1 : mayB k n t = true) (hm2 : mayB k2 n2 t2 = true) (w : World) (hE : Env w) :
    Calls Tryz.prog 18 #[.int .i64 13, val k n t, val k2 n2 t2, .int .i64 c] w fun e w' => e = .returned (.tuple #[nulV k k2 (truthV (decide (cmpA k n t k2 n2 t2 c = 0))), .int .i64 0]) ∧ Below w.heap.size w w' := by
  unfold nulV
  by_cases hk : k = 0
  · subst hk
    rw [if_pos (.inl rfl)]
    exact binary_un 13 c (fun W p => ∃ v, W.cell? ⟨p, 0, none⟩ = some v ∧ StFn W 142 c v) 0 n t k2 n2 t2 hm1 hm2 0 0 ⟨#[]⟩ (fun V => Calls.mono (ofTwo_eq c V) (fun e w' ⟨p, v, h1, h2, h3, h4⟩ => ⟨p, h1, ⟨v, h2, h3⟩, h4⟩)) (fun V W p ⟨v, h1, pf, pc, hv, h2, h3⟩ hb => ⟨v, cell_later hb h1, pf, pc, hv, cell_later hb h2, cell_later hb h3⟩) (fun V p hV h => nullA_walk k2 n2 t2 n t p V) w hE
  by_cases hk2 : k2 = 0
  · subst hk2
    rw [if_pos (.inr rfl)]
    exact binary_un 13 c (fun W p => ∃ v, W.cell? ⟨p, 0, none⟩ = some v ∧ StFn W 142 c v) k n t 0 n2 t2 hm1 hm2 0 0 ⟨#[]⟩ (fun V => Calls.mono (ofTwo_eq c V) (fun e w' ⟨p, v, h1, h2, h3, h4⟩ => ⟨p, h1, ⟨v, h2, h3⟩, h4⟩)) (fun V W p ⟨v, h1, pf, pc, hv, h2, h3⟩ hb => ⟨v, cell_later hb h1, pf, pc, hv, cell_later hb h2, cell_later hb h3⟩) (fun V p hV h => nullB_walk k n t n2 t2 p V) w hE
  rw [if_neg (by omega)]
  obtain ⟨c2, hc⟩ : ∃ m : Int, truthV (decide (cmpA k n t k2 n2 t2 c = 0)) = val 1 m ⟨#[]⟩ := ⟨_, rfl⟩
  rw [hc]
  refine binary_un 13 c (fun W p => ∃ v, W.cell? ⟨p, 0, none⟩ = some v ∧ StFn W 142 c v) k n t k2 n2 t2 hm1 hm2 1 c2 ⟨#[]⟩ (fun V => Calls.mono (ofTwo_eq c V) (fun e w' ⟨p, v, h1, h2, h3, h4⟩ => ⟨p, h1, ⟨v, h2, h3⟩, h4⟩)) (fun V W p ⟨v, h1, pf, pc, hv, h2, h3⟩ hb => ⟨v, cell_later hb h1, pf, pc, hv, cell_later hb h2, cell_later hb h3⟩) (fun V p hV ⟨v, h1, pf, pc, hv, h2, h3⟩ => ?_) w hE
  subst hv
  exact un_stand k n t k2 n2 t2 (by simpa using hk) (by simpa using hk2) 1 c2 ⟨#[]⟩ p pf pc V h1 (fun U hU => by rw [← hc]; exact stand_eq k n t k2 n2 t2 c pf pc U (cell_later hU h2) (cell_later hU h3))

theorem bin_ne (c k n : Int) (t : ByteArray) (k2 n2 : Int) (t2 : ByteArray) (hm1 : mayB k n t = true) (hm2 : mayB k2 n2 t2 = true) (w : World) (hE : Env w) :
    Calls Tryz.prog 18 #[.int .i64 14, val k n t, val k2 n2 t2, .int .i64 c] w fun e w' => e = .returned (.tuple #[nulV k k2 (truthV (decide (cmpA k n t k2 n2 t2 c ≠ 0))), .int .i64 0]) ∧ Below w.heap.size w w' := by
  unfold nulV
  by_cases hk : k = 0
  · subst hk
    rw [if_pos (.inl rfl)]
    exact binary_un 14 c (fun W p => ∃ v, W.cell? ⟨p, 0, none⟩ = some v ∧ StFn W 137 c v) 0 n t k2 n2 t2 hm1 hm2 0 0 ⟨#[]⟩ (fun V => Calls.mono (ofTwo_ne c V) (fun e w' ⟨p, v, h1, h2, h3, h4⟩ => ⟨p, h1, ⟨v, h2, h3⟩, h4⟩)) (fun V W p ⟨v, h1, pf, pc, hv, h2, h3⟩ hb => ⟨v, cell_later hb h1, pf, pc, hv, cell_later hb h2, cell_later hb h3⟩) (fun V p hV h => nullA_walk k2 n2 t2 n t p V) w hE
  by_cases hk2 : k2 = 0
  · subst hk2
    rw [if_pos (.inr rfl)]
    exact binary_un 14 c (fun W p => ∃ v, W.cell? ⟨p, 0, none⟩ = some v ∧ StFn W 137 c v) k n t 0 n2 t2 hm1 hm2 0 0 ⟨#[]⟩ (fun V => Calls.mono (ofTwo_ne c V) (fun e w' ⟨p, v, h1, h2, h3, h4⟩ => ⟨p, h1, ⟨v, h2, h3⟩, h4⟩)) (fun V W p ⟨v, h1, pf, pc, hv, h2, h3⟩ hb => ⟨v, cell_later hb h1, pf, pc, hv, cell_later hb h2, cell_later hb h3⟩) (fun V p hV h => nullB_walk k n t n2 t2 p V) w hE
  rw [if_neg (by omega)]
  obtain ⟨c2, hc⟩ : ∃ m : Int, truthV (decide (cmpA k n t k2 n2 t2 c ≠ 0)) = val 1 m ⟨#[]⟩ := ⟨_, rfl⟩
  rw [hc]
  refine binary_un 14 c (fun W p => ∃ v, W.cell? ⟨p, 0, none⟩ = some v ∧ StFn W 137 c v) k n t k2 n2 t2 hm1 hm2 1 c2 ⟨#[]⟩ (fun V => Calls.mono (ofTwo_ne c V) (fun e w' ⟨p, v, h1, h2, h3, h4⟩ => ⟨p, h1, ⟨v, h2, h3⟩, h4⟩)) (fun V W p ⟨v, h1, pf, pc, hv, h2, h3⟩ hb => ⟨v, cell_later hb h1, pf, pc, hv, cell_later hb h2, cell_later hb h3⟩) (fun V p hV ⟨v, h1, pf, pc, hv, h2, h3⟩ => ?_) w hE
  subst hv
  exact un_stand k n t k2 n2 t2 (by simpa using hk) (by simpa using hk2) 1 c2 ⟨#[]⟩ p pf pc V h1 (fun U hU => by rw [← hc]; exact stand_ne k n t k2 n2 t2 c pf pc U (cell_later hU h2) (cell_later hU h3))

theorem bin_lt (c k n : Int) (t : ByteArray) (k2 n2 : Int) (t2 : ByteArray) (hm1 : mayB k n t = true) (hm2 : mayB k2 n2 t2 = true) (w : World) (hE : Env w) :
    Calls Tryz.prog 18 #[.int .i64 15, val k n t, val k2 n2 t2, .int .i64 c] w fun e w' => e = .returned (.tuple #[nulV k k2 (truthV (decide (cmpA k n t k2 n2 t2 c < 0))), .int .i64 0]) ∧ Below w.heap.size w w' := by
  unfold nulV
  by_cases hk : k = 0
  · subst hk
    rw [if_pos (.inl rfl)]
    exact binary_un 15 c (fun W p => ∃ v, W.cell? ⟨p, 0, none⟩ = some v ∧ StFn W 138 c v) 0 n t k2 n2 t2 hm1 hm2 0 0 ⟨#[]⟩ (fun V => Calls.mono (ofTwo_lt c V) (fun e w' ⟨p, v, h1, h2, h3, h4⟩ => ⟨p, h1, ⟨v, h2, h3⟩, h4⟩)) (fun V W p ⟨v, h1, pf, pc, hv, h2, h3⟩ hb => ⟨v, cell_later hb h1, pf, pc, hv, cell_later hb h2, cell_later hb h3⟩) (fun V p hV h => nullA_walk k2 n2 t2 n t p V) w hE
  by_cases hk2 : k2 = 0
  · subst hk2
    rw [if_pos (.inr rfl)]
    exact binary_un 15 c (fun W p => ∃ v, W.cell? ⟨p, 0, none⟩ = some v ∧ StFn W 138 c v) k n t 0 n2 t2 hm1 hm2 0 0 ⟨#[]⟩ (fun V => Calls.mono (ofTwo_lt c V) (fun e w' ⟨p, v, h1, h2, h3, h4⟩ => ⟨p, h1, ⟨v, h2, h3⟩, h4⟩)) (fun V W p ⟨v, h1, pf, pc, hv, h2, h3⟩ hb => ⟨v, cell_later hb h1, pf, pc, hv, cell_later hb h2, cell_later hb h3⟩) (fun V p hV h => nullB_walk k n t n2 t2 p V) w hE
  rw [if_neg (by omega)]
  obtain ⟨c2, hc⟩ : ∃ m : Int, truthV (decide (cmpA k n t k2 n2 t2 c < 0)) = val 1 m ⟨#[]⟩ := ⟨_, rfl⟩
  rw [hc]
  refine binary_un 15 c (fun W p => ∃ v, W.cell? ⟨p, 0, none⟩ = some v ∧ StFn W 138 c v) k n t k2 n2 t2 hm1 hm2 1 c2 ⟨#[]⟩ (fun V => Calls.mono (ofTwo_lt c V) (fun e w' ⟨p, v, h1, h2, h3, h4⟩ => ⟨p, h1, ⟨v, h2, h3⟩, h4⟩)) (fun V W p ⟨v, h1, pf, pc, hv, h2, h3⟩ hb => ⟨v, cell_later hb h1, pf, pc, hv, cell_later hb h2, cell_later hb h3⟩) (fun V p hV ⟨v, h1, pf, pc, hv, h2, h3⟩ => ?_) w hE
  subst hv
  exact un_stand k n t k2 n2 t2 (by simpa using hk) (by simpa using hk2) 1 c2 ⟨#[]⟩ p pf pc V h1 (fun U hU => by rw [← hc]; exact stand_lt k n t k2 n2 t2 c pf pc U (cell_later hU h2) (cell_later hU h3))

theorem bin_le (c k n : Int) (t : ByteArray) (k2 n2 : Int) (t2 : ByteArray) (hm1 : mayB k n t = true) (hm2 : mayB k2 n2 t2 = true) (w : World) (hE : Env w) :
    Calls Tryz.prog 18 #[.int .i64 16, val k n t, val k2 n2 t2, .int .i64 c] w fun e w' => e = .returned (.tuple #[nulV k k2 (truthV (decide (cmpA k n t k2 n2 t2 c ≤ 0))), .int .i64 0]) ∧ Below w.heap.size w w' := by
  unfold nulV
  by_cases hk : k = 0
  · subst hk
    rw [if_pos (.inl rfl)]
    exact binary_un 16 c (fun W p => ∃ v, W.cell? ⟨p, 0, none⟩ = some v ∧ StFn W 139 c v) 0 n t k2 n2 t2 hm1 hm2 0 0 ⟨#[]⟩ (fun V => Calls.mono (ofTwo_le c V) (fun e w' ⟨p, v, h1, h2, h3, h4⟩ => ⟨p, h1, ⟨v, h2, h3⟩, h4⟩)) (fun V W p ⟨v, h1, pf, pc, hv, h2, h3⟩ hb => ⟨v, cell_later hb h1, pf, pc, hv, cell_later hb h2, cell_later hb h3⟩) (fun V p hV h => nullA_walk k2 n2 t2 n t p V) w hE
  by_cases hk2 : k2 = 0
  · subst hk2
    rw [if_pos (.inr rfl)]
    exact binary_un 16 c (fun W p => ∃ v, W.cell? ⟨p, 0, none⟩ = some v ∧ StFn W 139 c v) k n t 0 n2 t2 hm1 hm2 0 0 ⟨#[]⟩ (fun V => Calls.mono (ofTwo_le c V) (fun e w' ⟨p, v, h1, h2, h3, h4⟩ => ⟨p, h1, ⟨v, h2, h3⟩, h4⟩)) (fun V W p ⟨v, h1, pf, pc, hv, h2, h3⟩ hb => ⟨v, cell_later hb h1, pf, pc, hv, cell_later hb h2, cell_later hb h3⟩) (fun V p hV h => nullB_walk k n t n2 t2 p V) w hE
  rw [if_neg (by omega)]
  obtain ⟨c2, hc⟩ : ∃ m : Int, truthV (decide (cmpA k n t k2 n2 t2 c ≤ 0)) = val 1 m ⟨#[]⟩ := ⟨_, rfl⟩
  rw [hc]
  refine binary_un 16 c (fun W p => ∃ v, W.cell? ⟨p, 0, none⟩ = some v ∧ StFn W 139 c v) k n t k2 n2 t2 hm1 hm2 1 c2 ⟨#[]⟩ (fun V => Calls.mono (ofTwo_le c V) (fun e w' ⟨p, v, h1, h2, h3, h4⟩ => ⟨p, h1, ⟨v, h2, h3⟩, h4⟩)) (fun V W p ⟨v, h1, pf, pc, hv, h2, h3⟩ hb => ⟨v, cell_later hb h1, pf, pc, hv, cell_later hb h2, cell_later hb h3⟩) (fun V p hV ⟨v, h1, pf, pc, hv, h2, h3⟩ => ?_) w hE
  subst hv
  exact un_stand k n t k2 n2 t2 (by simpa using hk) (by simpa using hk2) 1 c2 ⟨#[]⟩ p pf pc V h1 (fun U hU => by rw [← hc]; exact stand_le k n t k2 n2 t2 c pf pc U (cell_later hU h2) (cell_later hU h3))

theorem bin_gt (c k n : Int) (t : ByteArray) (k2 n2 : Int) (t2 : ByteArray) (hm1 : mayB k n t = true) (hm2 : mayB k2 n2 t2 = true) (w : World) (hE : Env w) :
    Calls Tryz.prog 18 #[.int .i64 17, val k n t, val k2 n2 t2, .int .i64 c] w fun e w' => e = .returned (.tuple #[nulV k k2 (truthV (decide (0 < cmpA k n t k2 n2 t2 c))), .int .i64 0]) ∧ Below w.heap.size w w' := by
  unfold nulV
  by_cases hk : k = 0
  · subst hk
    rw [if_pos (.inl rfl)]
    exact binary_un 17 c (fun W p => ∃ v, W.cell? ⟨p, 0, none⟩ = some v ∧ StFn W 140 c v) 0 n t k2 n2 t2 hm1 hm2 0 0 ⟨#[]⟩ (fun V => Calls.mono (ofTwo_gt c V) (fun e w' ⟨p, v, h1, h2, h3, h4⟩ => ⟨p, h1, ⟨v, h2, h3⟩, h4⟩)) (fun V W p ⟨v, h1, pf, pc, hv, h2, h3⟩ hb => ⟨v, cell_later hb h1, pf, pc, hv, cell_later hb h2, cell_later hb h3⟩) (fun V p hV h => nullA_walk k2 n2 t2 n t p V) w hE
  by_cases hk2 : k2 = 0
  · subst hk2
    rw [if_pos (.inr rfl)]
    exact binary_un 17 c (fun W p => ∃ v, W.cell? ⟨p, 0, none⟩ = some v ∧ StFn W 140 c v) k n t 0 n2 t2 hm1 hm2 0 0 ⟨#[]⟩ (fun V => Calls.mono (ofTwo_gt c V) (fun e w' ⟨p, v, h1, h2, h3, h4⟩ => ⟨p, h1, ⟨v, h2, h3⟩, h4⟩)) (fun V W p ⟨v, h1, pf, pc, hv, h2, h3⟩ hb => ⟨v, cell_later hb h1, pf, pc, hv, cell_later hb h2, cell_later hb h3⟩) (fun V p hV h => nullB_walk k n t n2 t2 p V) w hE
  rw [if_neg (by omega)]
  obtain ⟨c2, hc⟩ : ∃ m : Int, truthV (decide (0 < cmpA k n t k2 n2 t2 c)) = val 1 m ⟨#[]⟩ := ⟨_, rfl⟩
  rw [hc]
  refine binary_un 17 c (fun W p => ∃ v, W.cell? ⟨p, 0, none⟩ = some v ∧ StFn W 140 c v) k n t k2 n2 t2 hm1 hm2 1 c2 ⟨#[]⟩ (fun V => Calls.mono (ofTwo_gt c V) (fun e w' ⟨p, v, h1, h2, h3, h4⟩ => ⟨p, h1, ⟨v, h2, h3⟩, h4⟩)) (fun V W p ⟨v, h1, pf, pc, hv, h2, h3⟩ hb => ⟨v, cell_later hb h1, pf, pc, hv, cell_later hb h2, cell_later hb h3⟩) (fun V p hV ⟨v, h1, pf, pc, hv, h2, h3⟩ => ?_) w hE
  subst hv
  exact un_stand k n t k2 n2 t2 (by simpa using hk) (by simpa using hk2) 1 c2 ⟨#[]⟩ p pf pc V h1 (fun U hU => by rw [← hc]; exact stand_gt k n t k2 n2 t2 c pf pc U (cell_later hU h2) (cell_later hU h3))

theorem bin_ge (c k n : Int) (t : ByteArray) (k2 n2 : Int) (t2 : ByteArray) (hm1 : mayB k n t = true) (hm2 : mayB k2 n2 t2 = true) (w : World) (hE : Env w) :
    Calls Tryz.prog 18 #[.int .i64 18, val k n t, val k2 n2 t2, .int .i64 c] w fun e w' => e = .returned (.tuple #[nulV k k2 (truthV (decide (0 ≤ cmpA k n t k2 n2 t2 c))), .int .i64 0]) ∧ Below w.heap.size w w' := by
  unfold nulV
  by_cases hk : k = 0
  · subst hk
    rw [if_pos (.inl rfl)]
    exact binary_un 18 c (fun W p => ∃ v, W.cell? ⟨p, 0, none⟩ = some v ∧ StFn W 141 c v) 0 n t k2 n2 t2 hm1 hm2 0 0 ⟨#[]⟩ (fun V => Calls.mono (ofTwo_ge c V) (fun e w' ⟨p, v, h1, h2, h3, h4⟩ => ⟨p, h1, ⟨v, h2, h3⟩, h4⟩)) (fun V W p ⟨v, h1, pf, pc, hv, h2, h3⟩ hb => ⟨v, cell_later hb h1, pf, pc, hv, cell_later hb h2, cell_later hb h3⟩) (fun V p hV h => nullA_walk k2 n2 t2 n t p V) w hE
  by_cases hk2 : k2 = 0
  · subst hk2
    rw [if_pos (.inr rfl)]
    exact binary_un 18 c (fun W p => ∃ v, W.cell? ⟨p, 0, none⟩ = some v ∧ StFn W 141 c v) k n t 0 n2 t2 hm1 hm2 0 0 ⟨#[]⟩ (fun V => Calls.mono (ofTwo_ge c V) (fun e w' ⟨p, v, h1, h2, h3, h4⟩ => ⟨p, h1, ⟨v, h2, h3⟩, h4⟩)) (fun V W p ⟨v, h1, pf, pc, hv, h2, h3⟩ hb => ⟨v, cell_later hb h1, pf, pc, hv, cell_later hb h2, cell_later hb h3⟩) (fun V p hV h => nullB_walk k n t n2 t2 p V) w hE
  rw [if_neg (by omega)]
  obtain ⟨c2, hc⟩ : ∃ m : Int, truthV (decide (0 ≤ cmpA k n t k2 n2 t2 c)) = val 1 m ⟨#[]⟩ := ⟨_, rfl⟩
  rw [hc]
  refine binary_un 18 c (fun W p => ∃ v, W.cell? ⟨p, 0, none⟩ = some v ∧ StFn W 141 c v) k n t k2 n2 t2 hm1 hm2 1 c2 ⟨#[]⟩ (fun V => Calls.mono (ofTwo_ge c V) (fun e w' ⟨p, v, h1, h2, h3, h4⟩ => ⟨p, h1, ⟨v, h2, h3⟩, h4⟩)) (fun V W p ⟨v, h1, pf, pc, hv, h2, h3⟩ hb => ⟨v, cell_later hb h1, pf, pc, hv, cell_later hb h2, cell_later hb h3⟩) (fun V p hV ⟨v, h1, pf, pc, hv, h2, h3⟩ => ?_) w hE
  subst hv
  exact un_stand k n t k2 n2 t2 (by simpa using hk) (by simpa using hk2) 1 c2 ⟨#[]⟩ p pf pc V h1 (fun U hU => by rw [← hc]; exact stand_ge k n t k2 n2 t2 c pf pc U (cell_later hU h2) (cell_later hU h3))

theorem bin_is (c k n : Int) (t : ByteArray) (k2 n2 : Int) (t2 : ByteArray) (hm1 : mayB k n t = true) (hm2 : mayB k2 n2 t2 = true) (w : World) (hE : Env w) :
    Calls Tryz.prog 18 #[.int .i64 19, val k n t, val k2 n2 t2, .int .i64 c] w fun e w' => e = .returned (.tuple #[truthV (decide (cmpA k n t k2 n2 t2 c = 0)), .int .i64 0]) ∧ Below w.heap.size w w' := by
  obtain ⟨c2, hc⟩ : ∃ m : Int, truthV (decide (cmpA k n t k2 n2 t2 c = 0)) = val 1 m ⟨#[]⟩ := ⟨_, rfl⟩
  rw [hc]
  refine binary_st 19 c (fun W pf pc => W.cell? ⟨pf, 0, none⟩ = some (.func (.func 142) #[] #[]) ∧ W.cell? ⟨pc, 0, none⟩ = some (.int .i64 c)) k n t k2 n2 t2 hm1 hm2 1 c2 ⟨#[]⟩ (fun V => Calls.mono (ofTwo_is c V) (fun e w' ⟨v, h1, ⟨pf, pc, hv, h2, h3⟩, h4⟩ => ⟨pf, pc, h1.trans (congrArg _ hv), ⟨h2, h3⟩, h4⟩)) (fun V W pf pc ⟨h1, h2⟩ hb => ⟨cell_later hb h1, cell_later hb h2⟩) (fun V pf pc hV ⟨h1, h2⟩ => ?_) w hE
  rw [← hc]
  exact stand_eq k n t k2 n2 t2 c pf pc V h1 h2

theorem bin_isnot (c k n : Int) (t : ByteArray) (k2 n2 : Int) (t2 : ByteArray) (hm1 : mayB k n t = true) (hm2 : mayB k2 n2 t2 = true) (w : World) (hE : Env w) :
    Calls Tryz.prog 18 #[.int .i64 20, val k n t, val k2 n2 t2, .int .i64 c] w fun e w' => e = .returned (.tuple #[truthV (decide (cmpA k n t k2 n2 t2 c ≠ 0)), .int .i64 0]) ∧ Below w.heap.size w w' := by
  obtain ⟨c2, hc⟩ : ∃ m : Int, truthV (decide (cmpA k n t k2 n2 t2 c ≠ 0)) = val 1 m ⟨#[]⟩ := ⟨_, rfl⟩
  rw [hc]
  refine binary_st 20 c (fun W pf pc => W.cell? ⟨pf, 0, none⟩ = some (.func (.func 137) #[] #[]) ∧ W.cell? ⟨pc, 0, none⟩ = some (.int .i64 c)) k n t k2 n2 t2 hm1 hm2 1 c2 ⟨#[]⟩ (fun V => Calls.mono (ofTwo_isnot c V) (fun e w' ⟨v, h1, ⟨pf, pc, hv, h2, h3⟩, h4⟩ => ⟨pf, pc, h1.trans (congrArg _ hv), ⟨h2, h3⟩, h4⟩)) (fun V W pf pc ⟨h1, h2⟩ hb => ⟨cell_later hb h1, cell_later hb h2⟩) (fun V pf pc hV ⟨h1, h2⟩ => ?_) w hE
  rw [← hc]
  exact stand_ne k n t k2 n2 t2 c pf pc V h1 h2

theorem setB_val (what bx kx b_y ky : Bool) : ∃ c1 c2 c3, setB what bx kx b_y ky = val c1 c2 c3 := by
  unfold setB
  split
  · exact ⟨_, _, _, rfl⟩
  · split
    · exact ⟨_, _, _, rfl⟩
    · exact ⟨_, _, _, rfl⟩

theorem bin_and (c k n : Int) (t : ByteArray) (k2 n2 : Int) (t2 : ByteArray) (bx kx b_y ky : Bool) (hx : truthB (numO k n t.data.toList) = .tuple #[.bool bx, .bool kx]) (hy : truthB (numO k2 n2 t2.data.toList) = .tuple #[.bool b_y, .bool ky]) (hm1 : mayB k n t = true) (hm2 : mayB k2 n2 t2 = true) (w : World) (hE : Env w) :
    Calls Tryz.prog 18 #[.int .i64 21, val k n t, val k2 n2 t2, .int .i64 c] w fun e w' => e = .returned (.tuple #[setB false bx kx b_y ky, .int .i64 0]) ∧ Below w.heap.size w w' := by
  obtain ⟨c1, c2, c3, hc⟩ := setB_val false bx kx b_y ky
  rw [hc]
  refine binary_set 21 c (fun W p => W.cell? ⟨p, 0, none⟩ = some (.bool false)) k n t k2 n2 t2 hm1 hm2 c1 c2 c3 (fun V => ofTwo_and c V) (fun V W p h hb => cell_later hb h) (fun V p hV h => ?_) w hE
  rw [← hc]
  exact settled_walk false k n t k2 n2 t2 bx kx b_y ky hx hy p V hV h

theorem bin_or (c k n : Int) (t : ByteArray) (k2 n2 : Int) (t2 : ByteArray) (bx kx b_y ky : Bool) (hx : truthB (numO k n t.data.toList) = .tuple #[.bool bx, .bool kx]) (hy : truthB (numO k2 n2 t2.data.toList) = .tuple #[.bool b_y, .bool ky]) (hm1 : mayB k n t = true) (hm2 : mayB k2 n2 t2 = true) (w : World) (hE : Env w) :
    Calls Tryz.prog 18 #[.int .i64 22, val k n t, val k2 n2 t2, .int .i64 c] w fun e w' => e = .returned (.tuple #[setB true bx kx b_y ky, .int .i64 0]) ∧ Below w.heap.size w w' := by
  obtain ⟨c1, c2, c3, hc⟩ := setB_val true bx kx b_y ky
  rw [hc]
  refine binary_set 22 c (fun W p => W.cell? ⟨p, 0, none⟩ = some (.bool true)) k n t k2 n2 t2 hm1 hm2 c1 c2 c3 (fun V => ofTwo_or c V) (fun V W p h hb => cell_later hb h) (fun V p hV h => ?_) w hE
  rw [← hc]
  exact settled_walk true k n t k2 n2 t2 bx kx b_y ky hx hy p V hV h
end Go.Proofs.YtoekdeoekcmpgaaGreatDoor

namespace Go.Proofs.YtoekdeoekcmpgaaGreatDoor
open Go.ChangeShapes Go.WideShapes Go.ChangeAt Go.RowKit
set_option linter.unusedVariables false

theorem bin_add (c k n : Int) (t : ByteArray) (k2 n2 : Int) (t2 : ByteArray) (h0 : -9223372036854775808 ≤ n) (h1 : n ≤ 9223372036854775807) (g0 : -9223372036854775808 ≤ n2) (g1 : n2 ≤ 9223372036854775807) (hm1 : mayB k n t = true) (hm2 : mayB k2 n2 t2 = true) (w : World) (hE : Env w) :
    Calls Tryz.prog 18 #[.int .i64 7, val k n t, val k2 n2 t2, .int .i64 c] w fun e w' => e = .returned (.tuple #[optV (arO sumO (numO k n t.data.toList) (numO k2 n2 t2.data.toList)), .int .i64 0]) ∧ Below w.heap.size w w' :=
  binary_ar 7 c sumO 77 k n t k2 n2 t2 hm1 hm2 (fun V => ofTwo_add c V) (fun x y hx hy p V hc => clo1_sum _ _ _ (fun V => sum_walk _ _ (numO_range h0 h1 hx) (numO_range g0 g1 hy) V) p V hc) w hE

theorem bin_sub (c k n : Int) (t : ByteArray) (k2 n2 : Int) (t2 : ByteArray) (h0 : -9223372036854775808 ≤ n) (h1 : n ≤ 9223372036854775807) (g0 : -9223372036854775808 ≤ n2) (g1 : n2 ≤ 9223372036854775807) (hm1 : mayB k n t = true) (hm2 : mayB k2 n2 t2 = true) (w : World) (hE : Env w) :
    Calls Tryz.prog 18 #[.int .i64 8, val k n t, val k2 n2 t2, .int .i64 c] w fun e w' => e = .returned (.tuple #[optV (arO difO (numO k n t.data.toList) (numO k2 n2 t2.data.toList)), .int .i64 0]) ∧ Below w.heap.size w w' :=
  binary_ar 8 c difO 73 k n t k2 n2 t2 hm1 hm2 (fun V => ofTwo_sub c V) (fun x y hx hy p V hc => clo1_dif _ _ _ (fun V => dif_walk _ _ (numO_range h0 h1 hx) (numO_range g0 g1 hy) V) p V hc) w hE

theorem bin_mul (c k n : Int) (t : ByteArray) (k2 n2 : Int) (t2 : ByteArray) (h0 : -9223372036854775808 ≤ n) (h1 : n ≤ 9223372036854775807) (g0 : -9223372036854775808 ≤ n2) (g1 : n2 ≤ 9223372036854775807) (hm1 : mayB k n t = true) (hm2 : mayB k2 n2 t2 = true) (w : World) (hE : Env w) :
    Calls Tryz.prog 18 #[.int .i64 9, val k n t, val k2 n2 t2, .int .i64 c] w fun e w' => e = .returned (.tuple #[optV (arO mulO (numO k n t.data.toList) (numO k2 n2 t2.data.toList)), .int .i64 0]) ∧ Below w.heap.size w w' :=
  binary_ar 9 c mulO 78 k n t k2 n2 t2 hm1 hm2 (fun V => ofTwo_mul c V) (fun x y hx hy p V hc => clo1_mul _ _ _ (fun V => mul_walk _ _ (numO_range h0 h1 hx) (numO_range g0 g1 hy) V) p V hc) w hE

theorem bin_div (c k n : Int) (t : ByteArray) (k2 n2 : Int) (t2 : ByteArray) (h0 : -9223372036854775808 ≤ n) (h1 : n ≤ 9223372036854775807) (g0 : -9223372036854775808 ≤ n2) (g1 : n2 ≤ 9223372036854775807) (hm1 : mayB k n t = true) (hm2 : mayB k2 n2 t2 = true) (w : World) (hE : Env w) :
    Calls Tryz.prog 18 #[.int .i64 10, val k n t, val k2 n2 t2, .int .i64 c] w fun e w' => e = .returned (.tuple #[optV (arO quoO (numO k n t.data.toList) (numO k2 n2 t2.data.toList)), .int .i64 0]) ∧ Below w.heap.size w w' :=
  binary_ar 10 c quoO 79 k n t k2 n2 t2 hm1 hm2 (fun V => ofTwo_div c V) (fun x y hx hy p V hc => clo1_quo _ _ _ (fun V => quo_walk _ _ (numO_range h0 h1 hx) (numO_range g0 g1 hy) V) p V hc) w hE

theorem bin_rem (c k n : Int) (t : ByteArray) (k2 n2 : Int) (t2 : ByteArray) (h0 : -9223372036854775808 ≤ n) (h1 : n ≤ 9223372036854775807) (g0 : -9223372036854775808 ≤ n2) (g1 : n2 ≤ 9223372036854775807) (hm1 : mayB k n t = true) (hm2 : mayB k2 n2 t2 = true) (w : World) (hE : Env w) :
    Calls Tryz.prog 18 #[.int .i64 11, val k n t, val k2 n2 t2, .int .i64 c] w fun e w' => e = .returned (.tuple #[optV (arO remO (numO k n t.data.toList) (numO k2 n2 t2.data.toList)), .int .i64 0]) ∧ Below w.heap.size w w' :=
  binary_ar 11 c remO 80 k n t k2 n2 t2 hm1 hm2 (fun V => ofTwo_rem c V) (fun x y hx hy p V hc => clo1_rem _ _ _ (fun V => rem_walk _ _ (numO_range h0 h1 hx) (numO_range g0 g1 hy) V) p V hc) w hE

set_option maxHeartbeats 1000000 in
theorem rcompare_eq (m : Int) (w : World) : Calls Tryz.prog 50 #[.int .i64 13, .int .i64 m] w fun e w' => e = .returned (.bool (decide (m = 0))) ∧ w = w' := by
  go_enter Tryz.func50, Tryz.ntmps50
  go_wp2
  go_ret
  refine ⟨?_, rfl⟩
  first | rfl | (by_cases h : m = 0 <;> simp [h, bne])

set_option maxHeartbeats 1000000 in
theorem rcompare_ne (m : Int) (w : World) : Calls Tryz.prog 50 #[.int .i64 14, .int .i64 m] w fun e w' => e = .returned (.bool (decide (m ≠ 0))) ∧ w = w' := by
  go_enter Tryz.func50, Tryz.ntmps50
  go_wp2
  go_ret
  refine ⟨?_, rfl⟩
  first | rfl | (by_cases h : m = 0 <;> simp [h, bne])

set_option maxHeartbeats 1000000 in
theorem rcompare_lt (m : Int) (w : World) : Calls Tryz.prog 50 #[.int .i64 15, .int .i64 m] w fun e w' => e = .returned (.bool (decide (m < 0))) ∧ w = w' := by
  go_enter Tryz.func50, Tryz.ntmps50
  go_wp2
  go_ret
  refine ⟨?_, rfl⟩
  first | rfl | (by_cases h : m = 0 <;> simp [h, bne])

set_option maxHeartbeats 1000000 in
theorem rcompare_le (m : Int) (w : World) : Calls Tryz.prog 50 #[.int .i64 16, .int .i64 m] w fun e w' => e = .returned (.bool (decide (m ≤ 0))) ∧ w = w' := by
  go_enter Tryz.func50, Tryz.ntmps50
  go_wp2
  go_ret
  refine ⟨?_, rfl⟩
  first | rfl | (by_cases h : m = 0 <;> simp [h, bne])

set_option maxHeartbeats 1000000 in
theorem rcompare_gt (m : Int) (w : World) : Calls Tryz.prog 50 #[.int .i64 17, .int .i64 m] w fun e w' => e = .returned (.bool (decide (0 < m))) ∧ w = w' := by
  go_enter Tryz.func50, Tryz.ntmps50
  go_wp2
  go_ret
  refine ⟨?_, rfl⟩
  first | rfl | (by_cases h : m = 0 <;> simp [h, bne])

set_option maxHeartbeats 1000000 in
theorem rcompare_ge (m : Int) (w : World) : Calls Tryz.prog 50 #[.int .i64 18, .int .i64 m] w fun e w' => e = .returned (.bool (decide (0 ≤ m))) ∧ w = w' := by
  go_enter Tryz.func50, Tryz.ntmps50
  go_wp2
  go_ret
  refine ⟨?_, rfl⟩
  first | rfl | (by_cases h : m = 0 <;> simp [h, bne])

set_option maxHeartbeats 1000000 in
theorem rcompare_is (m : Int) (w : World) : Calls Tryz.prog 50 #[.int .i64 19, .int .i64 m] w fun e w' => e = .returned (.bool (decide (m = 0))) ∧ w = w' := by
  go_enter Tryz.func50, Tryz.ntmps50
  go_wp2
  go_ret
  refine ⟨?_, rfl⟩
  first | rfl | (by_cases h : m = 0 <;> simp [h, bne])

set_option maxHeartbeats 1000000 in
theorem rcompare_isnot (m : Int) (w : World) : Calls Tryz.prog 50 #[.int .i64 20, .int .i64 m] w fun e w' => e = .returned (.bool (decide (m ≠ 0))) ∧ w = w' := by
  go_enter Tryz.func50, Tryz.ntmps50
  go_wp2
  go_ret
  refine ⟨?_, rfl⟩
  first | rfl | (by_cases h : m = 0 <;> simp [h, bne])
end Go.Proofs.YtoekdeoekcmpgaaGreatDoor
