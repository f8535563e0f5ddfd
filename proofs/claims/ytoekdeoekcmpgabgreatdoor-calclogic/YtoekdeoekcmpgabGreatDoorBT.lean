/- Package calc: what Binary makes of two values at each operator behind arithmetic. -/
import Derived.Test.YtoekdeoekcmpgabGreatDoorBS
namespace Go.Proofs.YtoekdeoekcmpgabGreatDoor
open Go.ChangeShapes Go.WideShapes Go.ChangeAt Go.RowKit
set_option linter.unusedVariables false

/-- Where one is NULL, NULL. -/
def nulV (k k2 : Int) (v : Value) : Value := if k = 0 ∨ k2 = 0 then val 0 0 ⟨#[]⟩ else v

theorem bin_eq (c k n : Int) (t : ByteArray) (k2 n2 : Int) (t2 : ByteArray) (hm1 : mayB k n t = true) (hm2 : mayB k2 n2 t2 = true) (w : World) (hE : Env w) :
    Calls Tryz.prog 13 #[.int .i64 13, val k n t, val k2 n2 t2, .int .i64 c] w fun e w' => e = .returned (.tuple #[nulV k k2 (truthV (decide (cmpA k n t k2 n2 t2 c = 0))), .int .i64 0]) ∧ Below w.heap.size w w' := by
  unfold nulV
  by_cases hk : k = 0
  · subst hk
    rw [if_pos (.inl rfl)]
    exact binary_un 13 c (fun W p => ∃ v, W.cell? ⟨p, 0, none⟩ = some v ∧ StFn W 82 c v) 0 n t k2 n2 t2 hm1 hm2 0 0 ⟨#[]⟩ (fun V => Calls.mono (ofTwo_eq c V) (fun e w' ⟨p, v, h1, h2, h3, h4⟩ => ⟨p, h1, ⟨v, h2, h3⟩, h4⟩)) (fun V W p ⟨v, h1, pf, pc, hv, h2, h3⟩ hb => ⟨v, cell_later hb h1, pf, pc, hv, cell_later hb h2, cell_later hb h3⟩) (fun V p hV h => nullA_walk k2 n2 t2 n t p V) w hE
  by_cases hk2 : k2 = 0
  · subst hk2
    rw [if_pos (.inr rfl)]
    exact binary_un 13 c (fun W p => ∃ v, W.cell? ⟨p, 0, none⟩ = some v ∧ StFn W 82 c v) k n t 0 n2 t2 hm1 hm2 0 0 ⟨#[]⟩ (fun V => Calls.mono (ofTwo_eq c V) (fun e w' ⟨p, v, h1, h2, h3, h4⟩ => ⟨p, h1, ⟨v, h2, h3⟩, h4⟩)) (fun V W p ⟨v, h1, pf, pc, hv, h2, h3⟩ hb => ⟨v, cell_later hb h1, pf, pc, hv, cell_later hb h2, cell_later hb h3⟩) (fun V p hV h => nullB_walk k n t n2 t2 p V) w hE
  rw [if_neg (by omega)]
  obtain ⟨c2, hc⟩ : ∃ m : Int, truthV (decide (cmpA k n t k2 n2 t2 c = 0)) = val 1 m ⟨#[]⟩ := ⟨_, rfl⟩
  rw [hc]
  refine binary_un 13 c (fun W p => ∃ v, W.cell? ⟨p, 0, none⟩ = some v ∧ StFn W 82 c v) k n t k2 n2 t2 hm1 hm2 1 c2 ⟨#[]⟩ (fun V => Calls.mono (ofTwo_eq c V) (fun e w' ⟨p, v, h1, h2, h3, h4⟩ => ⟨p, h1, ⟨v, h2, h3⟩, h4⟩)) (fun V W p ⟨v, h1, pf, pc, hv, h2, h3⟩ hb => ⟨v, cell_later hb h1, pf, pc, hv, cell_later hb h2, cell_later hb h3⟩) (fun V p hV ⟨v, h1, pf, pc, hv, h2, h3⟩ => ?_) w hE
  subst hv
  exact un_stand k n t k2 n2 t2 (by simpa using hk) (by simpa using hk2) 1 c2 ⟨#[]⟩ p pf pc V h1 (fun U hU => by rw [← hc]; exact stand_eq k n t k2 n2 t2 c pf pc U (cell_later hU h2) (cell_later hU h3))

theorem bin_ne (c k n : Int) (t : ByteArray) (k2 n2 : Int) (t2 : ByteArray) (hm1 : mayB k n t = true) (hm2 : mayB k2 n2 t2 = true) (w : World) (hE : Env w) :
    Calls Tryz.prog 13 #[.int .i64 14, val k n t, val k2 n2 t2, .int .i64 c] w fun e w' => e = .returned (.tuple #[nulV k k2 (truthV (decide (cmpA k n t k2 n2 t2 c ≠ 0))), .int .i64 0]) ∧ Below w.heap.size w w' := by
  unfold nulV
  by_cases hk : k = 0
  · subst hk
    rw [if_pos (.inl rfl)]
    exact binary_un 14 c (fun W p => ∃ v, W.cell? ⟨p, 0, none⟩ = some v ∧ StFn W 77 c v) 0 n t k2 n2 t2 hm1 hm2 0 0 ⟨#[]⟩ (fun V => Calls.mono (ofTwo_ne c V) (fun e w' ⟨p, v, h1, h2, h3, h4⟩ => ⟨p, h1, ⟨v, h2, h3⟩, h4⟩)) (fun V W p ⟨v, h1, pf, pc, hv, h2, h3⟩ hb => ⟨v, cell_later hb h1, pf, pc, hv, cell_later hb h2, cell_later hb h3⟩) (fun V p hV h => nullA_walk k2 n2 t2 n t p V) w hE
  by_cases hk2 : k2 = 0
  · subst hk2
    rw [if_pos (.inr rfl)]
    exact binary_un 14 c (fun W p => ∃ v, W.cell? ⟨p, 0, none⟩ = some v ∧ StFn W 77 c v) k n t 0 n2 t2 hm1 hm2 0 0 ⟨#[]⟩ (fun V => Calls.mono (ofTwo_ne c V) (fun e w' ⟨p, v, h1, h2, h3, h4⟩ => ⟨p, h1, ⟨v, h2, h3⟩, h4⟩)) (fun V W p ⟨v, h1, pf, pc, hv, h2, h3⟩ hb => ⟨v, cell_later hb h1, pf, pc, hv, cell_later hb h2, cell_later hb h3⟩) (fun V p hV h => nullB_walk k n t n2 t2 p V) w hE
  rw [if_neg (by omega)]
  obtain ⟨c2, hc⟩ : ∃ m : Int, truthV (decide (cmpA k n t k2 n2 t2 c ≠ 0)) = val 1 m ⟨#[]⟩ := ⟨_, rfl⟩
  rw [hc]
  refine binary_un 14 c (fun W p => ∃ v, W.cell? ⟨p, 0, none⟩ = some v ∧ StFn W 77 c v) k n t k2 n2 t2 hm1 hm2 1 c2 ⟨#[]⟩ (fun V => Calls.mono (ofTwo_ne c V) (fun e w' ⟨p, v, h1, h2, h3, h4⟩ => ⟨p, h1, ⟨v, h2, h3⟩, h4⟩)) (fun V W p ⟨v, h1, pf, pc, hv, h2, h3⟩ hb => ⟨v, cell_later hb h1, pf, pc, hv, cell_later hb h2, cell_later hb h3⟩) (fun V p hV ⟨v, h1, pf, pc, hv, h2, h3⟩ => ?_) w hE
  subst hv
  exact un_stand k n t k2 n2 t2 (by simpa using hk) (by simpa using hk2) 1 c2 ⟨#[]⟩ p pf pc V h1 (fun U hU => by rw [← hc]; exact stand_ne k n t k2 n2 t2 c pf pc U (cell_later hU h2) (cell_later hU h3))

theorem bin_lt (c k n : Int) (t : ByteArray) (k2 n2 : Int) (t2 : ByteArray) (hm1 : mayB k n t = true) (hm2 : mayB k2 n2 t2 = true) (w : World) (hE : Env w) :
    Calls Tryz.prog 13 #[.int .i64 15, val k n t, val k2 n2 t2, .int .i64 c] w fun e w' => e = .returned (.tuple #[nulV k k2 (truthV (decide (cmpA k n t k2 n2 t2 c < 0))), .int .i64 0]) ∧ Below w.heap.size w w' := by
  unfold nulV
  by_cases hk : k = 0
  · subst hk
    rw [if_pos (.inl rfl)]
    exact binary_un 15 c (fun W p => ∃ v, W.cell? ⟨p, 0, none⟩ = some v ∧ StFn W 78 c v) 0 n t k2 n2 t2 hm1 hm2 0 0 ⟨#[]⟩ (fun V => Calls.mono (ofTwo_lt c V) (fun e w' ⟨p, v, h1, h2, h3, h4⟩ => ⟨p, h1, ⟨v, h2, h3⟩, h4⟩)) (fun V W p ⟨v, h1, pf, pc, hv, h2, h3⟩ hb => ⟨v, cell_later hb h1, pf, pc, hv, cell_later hb h2, cell_later hb h3⟩) (fun V p hV h => nullA_walk k2 n2 t2 n t p V) w hE
  by_cases hk2 : k2 = 0
  · subst hk2
    rw [if_pos (.inr rfl)]
    exact binary_un 15 c (fun W p => ∃ v, W.cell? ⟨p, 0, none⟩ = some v ∧ StFn W 78 c v) k n t 0 n2 t2 hm1 hm2 0 0 ⟨#[]⟩ (fun V => Calls.mono (ofTwo_lt c V) (fun e w' ⟨p, v, h1, h2, h3, h4⟩ => ⟨p, h1, ⟨v, h2, h3⟩, h4⟩)) (fun V W p ⟨v, h1, pf, pc, hv, h2, h3⟩ hb => ⟨v, cell_later hb h1, pf, pc, hv, cell_later hb h2, cell_later hb h3⟩) (fun V p hV h => nullB_walk k n t n2 t2 p V) w hE
  rw [if_neg (by omega)]
  obtain ⟨c2, hc⟩ : ∃ m : Int, truthV (decide (cmpA k n t k2 n2 t2 c < 0)) = val 1 m ⟨#[]⟩ := ⟨_, rfl⟩
  rw [hc]
  refine binary_un 15 c (fun W p => ∃ v, W.cell? ⟨p, 0, none⟩ = some v ∧ StFn W 78 c v) k n t k2 n2 t2 hm1 hm2 1 c2 ⟨#[]⟩ (fun V => Calls.mono (ofTwo_lt c V) (fun e w' ⟨p, v, h1, h2, h3, h4⟩ => ⟨p, h1, ⟨v, h2, h3⟩, h4⟩)) (fun V W p ⟨v, h1, pf, pc, hv, h2, h3⟩ hb => ⟨v, cell_later hb h1, pf, pc, hv, cell_later hb h2, cell_later hb h3⟩) (fun V p hV ⟨v, h1, pf, pc, hv, h2, h3⟩ => ?_) w hE
  subst hv
  exact un_stand k n t k2 n2 t2 (by simpa using hk) (by simpa using hk2) 1 c2 ⟨#[]⟩ p pf pc V h1 (fun U hU => by rw [← hc]; exact stand_lt k n t k2 n2 t2 c pf pc U (cell_later hU h2) (cell_later hU h3))

theorem bin_le (c k n : Int) (t : ByteArray) (k2 n2 : Int) (t2 : ByteArray) (hm1 : mayB k n t = true) (hm2 : mayB k2 n2 t2 = true) (w : World) (hE : Env w) :
    Calls Tryz.prog 13 #[.int .i64 16, val k n t, val k2 n2 t2, .int .i64 c] w fun e w' => e = .returned (.tuple #[nulV k k2 (truthV (decide (cmpA k n t k2 n2 t2 c ≤ 0))), .int .i64 0]) ∧ Below w.heap.size w w' := by
  unfold nulV
  by_cases hk : k = 0
  · subst hk
    rw [if_pos (.inl rfl)]
    exact binary_un 16 c (fun W p => ∃ v, W.cell? ⟨p, 0, none⟩ = some v ∧ StFn W 79 c v) 0 n t k2 n2 t2 hm1 hm2 0 0 ⟨#[]⟩ (fun V => Calls.mono (ofTwo_le c V) (fun e w' ⟨p, v, h1, h2, h3, h4⟩ => ⟨p, h1, ⟨v, h2, h3⟩, h4⟩)) (fun V W p ⟨v, h1, pf, pc, hv, h2, h3⟩ hb => ⟨v, cell_later hb h1, pf, pc, hv, cell_later hb h2, cell_later hb h3⟩) (fun V p hV h => nullA_walk k2 n2 t2 n t p V) w hE
  by_cases hk2 : k2 = 0
  · subst hk2
    rw [if_pos (.inr rfl)]
    exact binary_un 16 c (fun W p => ∃ v, W.cell? ⟨p, 0, none⟩ = some v ∧ StFn W 79 c v) k n t 0 n2 t2 hm1 hm2 0 0 ⟨#[]⟩ (fun V => Calls.mono (ofTwo_le c V) (fun e w' ⟨p, v, h1, h2, h3, h4⟩ => ⟨p, h1, ⟨v, h2, h3⟩, h4⟩)) (fun V W p ⟨v, h1, pf, pc, hv, h2, h3⟩ hb => ⟨v, cell_later hb h1, pf, pc, hv, cell_later hb h2, cell_later hb h3⟩) (fun V p hV h => nullB_walk k n t n2 t2 p V) w hE
  rw [if_neg (by omega)]
  obtain ⟨c2, hc⟩ : ∃ m : Int, truthV (decide (cmpA k n t k2 n2 t2 c ≤ 0)) = val 1 m ⟨#[]⟩ := ⟨_, rfl⟩
  rw [hc]
  refine binary_un 16 c (fun W p => ∃ v, W.cell? ⟨p, 0, none⟩ = some v ∧ StFn W 79 c v) k n t k2 n2 t2 hm1 hm2 1 c2 ⟨#[]⟩ (fun V => Calls.mono (ofTwo_le c V) (fun e w' ⟨p, v, h1, h2, h3, h4⟩ => ⟨p, h1, ⟨v, h2, h3⟩, h4⟩)) (fun V W p ⟨v, h1, pf, pc, hv, h2, h3⟩ hb => ⟨v, cell_later hb h1, pf, pc, hv, cell_later hb h2, cell_later hb h3⟩) (fun V p hV ⟨v, h1, pf, pc, hv, h2, h3⟩ => ?_) w hE
  subst hv
  exact un_stand k n t k2 n2 t2 (by simpa using hk) (by simpa using hk2) 1 c2 ⟨#[]⟩ p pf pc V h1 (fun U hU => by rw [← hc]; exact stand_le k n t k2 n2 t2 c pf pc U (cell_later hU h2) (cell_later hU h3))

theorem bin_gt (c k n : Int) (t : ByteArray) (k2 n2 : Int) (t2 : ByteArray) (hm1 : mayB k n t = true) (hm2 : mayB k2 n2 t2 = true) (w : World) (hE : Env w) :
    Calls Tryz.prog 13 #[.int .i64 17, val k n t, val k2 n2 t2, .int .i64 c] w fun e w' => e = .returned (.tuple #[nulV k k2 (truthV (decide (0 < cmpA k n t k2 n2 t2 c))), .int .i64 0]) ∧ Below w.heap.size w w' := by
  unfold nulV
  by_cases hk : k = 0
  · subst hk
    rw [if_pos (.inl rfl)]
    exact binary_un 17 c (fun W p => ∃ v, W.cell? ⟨p, 0, none⟩ = some v ∧ StFn W 80 c v) 0 n t k2 n2 t2 hm1 hm2 0 0 ⟨#[]⟩ (fun V => Calls.mono (ofTwo_gt c V) (fun e w' ⟨p, v, h1, h2, h3, h4⟩ => ⟨p, h1, ⟨v, h2, h3⟩, h4⟩)) (fun V W p ⟨v, h1, pf, pc, hv, h2, h3⟩ hb => ⟨v, cell_later hb h1, pf, pc, hv, cell_later hb h2, cell_later hb h3⟩) (fun V p hV h => nullA_walk k2 n2 t2 n t p V) w hE
  by_cases hk2 : k2 = 0
  · subst hk2
    rw [if_pos (.inr rfl)]
    exact binary_un 17 c (fun W p => ∃ v, W.cell? ⟨p, 0, none⟩ = some v ∧ StFn W 80 c v) k n t 0 n2 t2 hm1 hm2 0 0 ⟨#[]⟩ (fun V => Calls.mono (ofTwo_gt c V) (fun e w' ⟨p, v, h1, h2, h3, h4⟩ => ⟨p, h1, ⟨v, h2, h3⟩, h4⟩)) (fun V W p ⟨v, h1, pf, pc, hv, h2, h3⟩ hb => ⟨v, cell_later hb h1, pf, pc, hv, cell_later hb h2, cell_later hb h3⟩) (fun V p hV h => nullB_walk k n t n2 t2 p V) w hE
  rw [if_neg (by omega)]
  obtain ⟨c2, hc⟩ : ∃ m : Int, truthV (decide (0 < cmpA k n t k2 n2 t2 c)) = val 1 m ⟨#[]⟩ := ⟨_, rfl⟩
  rw [hc]
  refine binary_un 17 c (fun W p => ∃ v, W.cell? ⟨p, 0, none⟩ = some v ∧ StFn W 80 c v) k n t k2 n2 t2 hm1 hm2 1 c2 ⟨#[]⟩ (fun V => Calls.mono (ofTwo_gt c V) (fun e w' ⟨p, v, h1, h2, h3, h4⟩ => ⟨p, h1, ⟨v, h2, h3⟩, h4⟩)) (fun V W p ⟨v, h1, pf, pc, hv, h2, h3⟩ hb => ⟨v, cell_later hb h1, pf, pc, hv, cell_later hb h2, cell_later hb h3⟩) (fun V p hV ⟨v, h1, pf, pc, hv, h2, h3⟩ => ?_) w hE
  subst hv
  exact un_stand k n t k2 n2 t2 (by simpa using hk) (by simpa using hk2) 1 c2 ⟨#[]⟩ p pf pc V h1 (fun U hU => by rw [← hc]; exact stand_gt k n t k2 n2 t2 c pf pc U (cell_later hU h2) (cell_later hU h3))

theorem bin_ge (c k n : Int) (t : ByteArray) (k2 n2 : Int) (t2 : ByteArray) (hm1 : mayB k n t = true) (hm2 : mayB k2 n2 t2 = true) (w : World) (hE : Env w) :
    Calls Tryz.prog 13 #[.int .i64 18, val k n t, val k2 n2 t2, .int .i64 c] w fun e w' => e = .returned (.tuple #[nulV k k2 (truthV (decide (0 ≤ cmpA k n t k2 n2 t2 c))), .int .i64 0]) ∧ Below w.heap.size w w' := by
  unfold nulV
  by_cases hk : k = 0
  · subst hk
    rw [if_pos (.inl rfl)]
    exact binary_un 18 c (fun W p => ∃ v, W.cell? ⟨p, 0, none⟩ = some v ∧ StFn W 81 c v) 0 n t k2 n2 t2 hm1 hm2 0 0 ⟨#[]⟩ (fun V => Calls.mono (ofTwo_ge c V) (fun e w' ⟨p, v, h1, h2, h3, h4⟩ => ⟨p, h1, ⟨v, h2, h3⟩, h4⟩)) (fun V W p ⟨v, h1, pf, pc, hv, h2, h3⟩ hb => ⟨v, cell_later hb h1, pf, pc, hv, cell_later hb h2, cell_later hb h3⟩) (fun V p hV h => nullA_walk k2 n2 t2 n t p V) w hE
  by_cases hk2 : k2 = 0
  · subst hk2
    rw [if_pos (.inr rfl)]
    exact binary_un 18 c (fun W p => ∃ v, W.cell? ⟨p, 0, none⟩ = some v ∧ StFn W 81 c v) k n t 0 n2 t2 hm1 hm2 0 0 ⟨#[]⟩ (fun V => Calls.mono (ofTwo_ge c V) (fun e w' ⟨p, v, h1, h2, h3, h4⟩ => ⟨p, h1, ⟨v, h2, h3⟩, h4⟩)) (fun V W p ⟨v, h1, pf, pc, hv, h2, h3⟩ hb => ⟨v, cell_later hb h1, pf, pc, hv, cell_later hb h2, cell_later hb h3⟩) (fun V p hV h => nullB_walk k n t n2 t2 p V) w hE
  rw [if_neg (by omega)]
  obtain ⟨c2, hc⟩ : ∃ m : Int, truthV (decide (0 ≤ cmpA k n t k2 n2 t2 c)) = val 1 m ⟨#[]⟩ := ⟨_, rfl⟩
  rw [hc]
  refine binary_un 18 c (fun W p => ∃ v, W.cell? ⟨p, 0, none⟩ = some v ∧ StFn W 81 c v) k n t k2 n2 t2 hm1 hm2 1 c2 ⟨#[]⟩ (fun V => Calls.mono (ofTwo_ge c V) (fun e w' ⟨p, v, h1, h2, h3, h4⟩ => ⟨p, h1, ⟨v, h2, h3⟩, h4⟩)) (fun V W p ⟨v, h1, pf, pc, hv, h2, h3⟩ hb => ⟨v, cell_later hb h1, pf, pc, hv, cell_later hb h2, cell_later hb h3⟩) (fun V p hV ⟨v, h1, pf, pc, hv, h2, h3⟩ => ?_) w hE
  subst hv
  exact un_stand k n t k2 n2 t2 (by simpa using hk) (by simpa using hk2) 1 c2 ⟨#[]⟩ p pf pc V h1 (fun U hU => by rw [← hc]; exact stand_ge k n t k2 n2 t2 c pf pc U (cell_later hU h2) (cell_later hU h3))

theorem bin_is (c k n : Int) (t : ByteArray) (k2 n2 : Int) (t2 : ByteArray) (hm1 : mayB k n t = true) (hm2 : mayB k2 n2 t2 = true) (w : World) (hE : Env w) :
    Calls Tryz.prog 13 #[.int .i64 19, val k n t, val k2 n2 t2, .int .i64 c] w fun e w' => e = .returned (.tuple #[truthV (decide (cmpA k n t k2 n2 t2 c = 0)), .int .i64 0]) ∧ Below w.heap.size w w' := by
  obtain ⟨c2, hc⟩ : ∃ m : Int, truthV (decide (cmpA k n t k2 n2 t2 c = 0)) = val 1 m ⟨#[]⟩ := ⟨_, rfl⟩
  rw [hc]
  refine binary_st 19 c (fun W pf pc => W.cell? ⟨pf, 0, none⟩ = some (.func (.func 82) #[] #[]) ∧ W.cell? ⟨pc, 0, none⟩ = some (.int .i64 c)) k n t k2 n2 t2 hm1 hm2 1 c2 ⟨#[]⟩ (fun V => Calls.mono (ofTwo_is c V) (fun e w' ⟨v, h1, ⟨pf, pc, hv, h2, h3⟩, h4⟩ => ⟨pf, pc, h1.trans (congrArg _ hv), ⟨h2, h3⟩, h4⟩)) (fun V W pf pc ⟨h1, h2⟩ hb => ⟨cell_later hb h1, cell_later hb h2⟩) (fun V pf pc hV ⟨h1, h2⟩ => ?_) w hE
  rw [← hc]
  exact stand_eq k n t k2 n2 t2 c pf pc V h1 h2

theorem bin_isnot (c k n : Int) (t : ByteArray) (k2 n2 : Int) (t2 : ByteArray) (hm1 : mayB k n t = true) (hm2 : mayB k2 n2 t2 = true) (w : World) (hE : Env w) :
    Calls Tryz.prog 13 #[.int .i64 20, val k n t, val k2 n2 t2, .int .i64 c] w fun e w' => e = .returned (.tuple #[truthV (decide (cmpA k n t k2 n2 t2 c ≠ 0)), .int .i64 0]) ∧ Below w.heap.size w w' := by
  obtain ⟨c2, hc⟩ : ∃ m : Int, truthV (decide (cmpA k n t k2 n2 t2 c ≠ 0)) = val 1 m ⟨#[]⟩ := ⟨_, rfl⟩
  rw [hc]
  refine binary_st 20 c (fun W pf pc => W.cell? ⟨pf, 0, none⟩ = some (.func (.func 77) #[] #[]) ∧ W.cell? ⟨pc, 0, none⟩ = some (.int .i64 c)) k n t k2 n2 t2 hm1 hm2 1 c2 ⟨#[]⟩ (fun V => Calls.mono (ofTwo_isnot c V) (fun e w' ⟨v, h1, ⟨pf, pc, hv, h2, h3⟩, h4⟩ => ⟨pf, pc, h1.trans (congrArg _ hv), ⟨h2, h3⟩, h4⟩)) (fun V W pf pc ⟨h1, h2⟩ hb => ⟨cell_later hb h1, cell_later hb h2⟩) (fun V pf pc hV ⟨h1, h2⟩ => ?_) w hE
  rw [← hc]
  exact stand_ne k n t k2 n2 t2 c pf pc V h1 h2

theorem setB_val (what bx kx b_y ky : Bool) : ∃ c1 c2 c3, setB what bx kx b_y ky = val c1 c2 c3 := by
  unfold setB
  split
  · exact ⟨_, _, _, rfl⟩
  · split
    · exact ⟨_, _, _, rfl⟩
    · exact ⟨_, _, _, rfl⟩

theorem bin_and (c k n : Int) (t : ByteArray) (k2 n2 : Int) (t2 : ByteArray) (bx kx b_y ky : Bool) (hx : truthB (numO k n t.data.toList) = .tuple #[.bool bx, .bool kx]) (hy : truthB (numO k2 n2 t2.data.toList) = .tuple #[.bool b_y, .bool ky]) (hm1 : mayB k n t = true) (hm2 : mayB k2 n2 t2 = true) (w : World) (hE : Env w) :
    Calls Tryz.prog 13 #[.int .i64 21, val k n t, val k2 n2 t2, .int .i64 c] w fun e w' => e = .returned (.tuple #[setB false bx kx b_y ky, .int .i64 0]) ∧ Below w.heap.size w w' := by
  obtain ⟨c1, c2, c3, hc⟩ := setB_val false bx kx b_y ky
  rw [hc]
  refine binary_set 21 c (fun W p => W.cell? ⟨p, 0, none⟩ = some (.bool false)) k n t k2 n2 t2 hm1 hm2 c1 c2 c3 (fun V => ofTwo_and c V) (fun V W p h hb => cell_later hb h) (fun V p hV h => ?_) w hE
  rw [← hc]
  exact settled_walk false k n t k2 n2 t2 bx kx b_y ky hx hy p V hV h

theorem bin_or (c k n : Int) (t : ByteArray) (k2 n2 : Int) (t2 : ByteArray) (bx kx b_y ky : Bool) (hx : truthB (numO k n t.data.toList) = .tuple #[.bool bx, .bool kx]) (hy : truthB (numO k2 n2 t2.data.toList) = .tuple #[.bool b_y, .bool ky]) (hm1 : mayB k n t = true) (hm2 : mayB k2 n2 t2 = true) (w : World) (hE : Env w) :
    Calls Tryz.prog 13 #[.int .i64 22, val k n t, val k2 n2 t2, .int .i64 c] w fun e w' => e = .returned (.tuple #[setB true bx kx b_y ky, .int .i64 0]) ∧ Below w.heap.size w w' := by
  obtain ⟨c1, c2, c3, hc⟩ := setB_val true bx kx b_y ky
  rw [hc]
  refine binary_set 22 c (fun W p => W.cell? ⟨p, 0, none⟩ = some (.bool true)) k n t k2 n2 t2 hm1 hm2 c1 c2 c3 (fun V => ofTwo_or c V) (fun V W p h hb => cell_later hb h) (fun V p hV h => ?_) w hE
  rw [← hc]
  exact settled_walk true k n t k2 n2 t2 bx kx b_y ky hx hy p V hV h
end Go.Proofs.YtoekdeoekcmpgabGreatDoor
