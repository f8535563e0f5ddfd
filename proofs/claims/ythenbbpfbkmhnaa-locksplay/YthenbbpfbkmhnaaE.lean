/- A table: dropped, copied; who holds a lock. -/
import Derived.Test.YthenbbpfbkmhnaaD
import Derived.Laws.AppendOwn
namespace Go.Proofs.Ythenbbpfbkmhnaa
open Go.ChangeShapes Go.WideShapes Go.ChangeAt Go.RowKit
set_option linter.unusedVariables false

theorem size46 {m : Bool} {h : List Int} (h8 : h.length = 8) : (Try.prog.info? 46).map (·.size) = some (tcl m h).length := by rw [tcl_length, h8]; exact info46
theorem info29 : (Try.prog.info? 29).map (·.size) = some 9 := by kernel_rfl
theorem size29 {m : Bool} {h : List Int} (h8 : h.length = 8) : (Try.prog.info? 29).map (·.size) = some (tcl m h).length := by rw [tcl_length, h8]; exact info29
theorem u46 : ∃ d, Try.prog.underlying 46 = some d ∧ d.isRow = true := ⟨_, Try.underlying46, rfl⟩
theorem u29 : ∃ d, Try.prog.underlying 29 = some d ∧ d.isRow = true := ⟨_, Try.underlying29, rfl⟩
theorem Blk.range {w : World} {g : Nat} {l : List Value} {t : TypeId} (h : Blk w g l.toArray t) : w.rangeAt g 0 l := by
  intro j v hv
  rw [Nat.zero_add, h.cell j]
  simpa using hv
/-- A table, loaded whole. -/
theorem wp_load46 {ops : Array Oper} {rest : List Oper} {o : Oper} {a : Act} {Q : Exit → Act → World → Prop} {w : World} {g k : Nat} {m : Bool} {h : List Int} (h8 : h.length = 8) (hg : w.rangeAt g k (tcl m h)) (x : Operand)
    (hgd : o.guard = none) (ho : o.op = .load 46 x) (hx : a.eval x = .pointer (some ⟨g, k, none⟩)) (hk : wpList Try.prog ops Q rest (a.put o.dst (.agg (tcl m h).toArray)) w) : wpList Try.prog ops Q (o :: rest) a w := by
  obtain ⟨d, hd, hr⟩ := u46
  exact wpList_load_mid hgd 46 x ho g k hx (tcl m h) d hg hd hr (size46 h8) hk
theorem wp_load29 {ops : Array Oper} {rest : List Oper} {o : Oper} {a : Act} {Q : Exit → Act → World → Prop} {w : World} {g k : Nat} {m : Bool} {h : List Int} (h8 : h.length = 8) (hg : w.rangeAt g k (tcl m h)) (x : Operand)
    (hgd : o.guard = none) (ho : o.op = .load 29 x) (hx : a.eval x = .pointer (some ⟨g, k, none⟩)) (hk : wpList Try.prog ops Q rest (a.put o.dst (.agg (tcl m h).toArray)) w) : wpList Try.prog ops Q (o :: rest) a w := by
  obtain ⟨d, hd, hr⟩ := u29
  exact wpList_load_mid hgd 29 x ho g k hx (tcl m h) d hg hd hr (size29 h8) hk
theorem tcl_all (m : Bool) (h : List Int) : (tcl m h).toArray.all (·.oneCell') = true := all_oneCell_toArray (tcl_one m h)
/-- A table, stored whole into a block of its own. -/
theorem wp_store46 {ops : Array Oper} {rest : List Oper} {o : Oper} {a : Act} {Q : Exit → Act → World → Prop} {w : World} {g : Nat} {m m0 : Bool} {h h1 : List Int} (h8 : h.length = 8) (h18 : h1.length = 8) (hg : Blk w g (tcl m0 h1).toArray 46) (x y : Operand)
    (hgd : o.guard = none) (ho : o.op = .store 46 x y) (hx : a.eval x = .pointer (some ⟨g, 0, none⟩)) (hy : a.eval y = .agg (tcl m h).toArray)
    (hk : ∀ W', Blk W' g (tcl m h).toArray 46 → Only [g] w W' → wpList Try.prog ops Q rest (a.put o.dst undef) W') : wpList Try.prog ops Q (o :: rest) a w :=
  wpList_store_row hgd 46 x y ho g (tcl m h).toArray hx hy 46 (tcl m0 h1).toArray hg (by simpa using size46 h8) (by simp [tcl_length, h8, h18]) (tcl_all m h)
    (hk _ (setRow_heap w g _ _ _ _ hg) ⟨rfl, rfl, rfl, by simp [World.setRow], fun k _ hk => by simp only [World.setRow]; rw [Array.getElem?_modify, if_neg (fun e => hk (by simp [e]))]⟩)
theorem wp_store29 {ops : Array Oper} {rest : List Oper} {o : Oper} {a : Act} {Q : Exit → Act → World → Prop} {w : World} {g : Nat} {m m0 : Bool} {h h1 : List Int} (h8 : h.length = 8) (h18 : h1.length = 8) (hg : Blk w g (tcl m0 h1).toArray 29) (x y : Operand)
    (hgd : o.guard = none) (ho : o.op = .store 29 x y) (hx : a.eval x = .pointer (some ⟨g, 0, none⟩)) (hy : a.eval y = .agg (tcl m h).toArray)
    (hk : ∀ W', Blk W' g (tcl m h).toArray 29 → Only [g] w W' → wpList Try.prog ops Q rest (a.put o.dst undef) W') : wpList Try.prog ops Q (o :: rest) a w :=
  wpList_store_row hgd 29 x y ho g (tcl m h).toArray hx hy 29 (tcl m0 h1).toArray hg (by simpa using size29 h8) (by simp [tcl_length, h8, h18]) (tcl_all m h)
    (hk _ (setRow_heap w g _ _ _ _ hg) ⟨rfl, rfl, rfl, by simp [World.setRow], fun k _ hk => by simp only [World.setRow]; rw [Array.getElem?_modify, if_neg (fun e => hk (by simp [e]))]⟩)

/-- What is held behind Drop. -/
def drH (h : List Int) (c l : Int) : List Int := if askE c l = 0 then h.set c.toNat (min (gt h c.toNat) l) else h
theorem drH_length (h : List Int) (c l : Int) : (drH h c l).length = h.length := by unfold drH; split <;> simp
theorem drop_nil (w : World) (c l : Int) : Calls Try.prog 9 #[.pointer none, .int .i64 c, .int .i64 l] w fun e w' => e = .returned (.int .i64 1) ∧ w = w' := by
  go_enter Try.func9, Try.ntmps9
  go_wp2_with (go_at_call 15; refine Calls.mono (asked_nil _ _ _) ?_; rintro e w4 ⟨rfl, rfl⟩)
  go_ret
  exact ⟨rfl, rfl⟩
theorem TB.set {w : World} {g : Nat} {h : List Int} (hb : TB w g h) (k : Nat) (x : Int) : TB (w.setCell ⟨g, 1 + k, none⟩ (.int .i64 x)) g (h.set k x) := by
  have := Blk.set hb (1 + k) (.int .i64 x)
  rw [Nat.add_comm 1 k, tcl_set] at this
  rw [Nat.add_comm 1 k]
  exact this
set_option maxHeartbeats 1000000 in
theorem drop_some (w : World) (g : Nat) (L : List Int) (h8 : L.length = 8) (hb : TB w g L) (c l : Int) : Calls Try.prog 9 #[.pointer (some ⟨g, 0, none⟩), .int .i64 c, .int .i64 l] w fun e w' => e = .returned (.int .i64 (askE c l)) ∧ TB w' g (drH L c l) ∧ Only [g] w w' := by
  have HA := hide (asked_some w g L hb c l)
  have HB := hide hb
  by_cases ha : askE c l = 0
  · have hcl : okC c = true ∧ okL l = true := by
      unfold askE at ha
      cases h1 : okC c <;> cases h2 : okL l <;> simp [h1, h2] at ha ⊢
    obtain ⟨k, rfl, hk⟩ : ∃ k : Nat, c = (k : Int) ∧ k < 8 := by
      have := of_decide_eq_true hcl.1
      exact ⟨c.toNat, by omega, by omega⟩
    have ck := hb.held' (k := k) (by omega)
    have fk := hb.frozen (1 + k)
    have l0 : (0 : Int) ≤ (k : Int) := by omega
    have l1 : (k : Int) < 8 := by omega
    have H8 := hide h8
    rw [ha] at HA
    have HH := hide (show drH L (k : Int) l = L.set k (min (gt L k) l) by unfold drH; rw [if_pos ha]; rfl)
    rw [ha]
    clear hb h8 hcl ha
    go_enter Try.func9, Try.ntmps9
    go_wp2_with (go_at_call 15; with_reducible refine Calls.mono HA.out ?_; rintro e w4 ⟨rfl, rfl⟩)
    go_region
    all_goals (try go_wp2)
    all_goals go_ret
    all_goals refine ⟨rfl, ?_, (Only.setCell w ⟨g, 1 + k, none⟩ _).trans (Only.drew _ _)⟩
    · rw [HH.out, show min (gt L k) l = l by omega]
      exact TB.set HB.out k l
    · rw [HH.out, show min (gt L k) l = gt L k by omega]
      exact TB.set HB.out k (gt L k)
  · have HH : Hid (drH L c l = L) := by show drH L c l = L; unfold drH; rw [if_neg ha]
    have ha2 : askE c l = 2 := by unfold askE at ha ⊢; split <;> simp_all
    rw [ha2] at HA ⊢
    clear ha ha2 hb
    go_enter Try.func9, Try.ntmps9
    go_wp2_with (go_at_call 15; with_reducible refine Calls.mono HA.out ?_; rintro e w4 ⟨rfl, rfl⟩)
    go_ret
    exact ⟨rfl, by rw [HH.out]; exact HB.out, Only.refl _ _⟩
theorem copy_nil (w : World) : Calls Try.prog 11 #[.pointer none] w fun e w' => e = .returned (.pointer none) ∧ w = w' := by
  go_enter Try.func11, Try.ntmps11
  go_wp2_with (go_at_call 19; refine Calls.mono (there_nil _) ?_; rintro e w4 ⟨rfl, rfl⟩)
  go_ret
  exact ⟨rfl, rfl⟩
theorem copy_some (w : World) (g : Nat) (h : List Int) (h8 : h.length = 8) (hb : TB w g h) : Calls Try.prog 11 #[.pointer (some ⟨g, 0, none⟩)] w fun e w' => e = .returned (.pointer (some ⟨w.heap.size, 0, none⟩)) ∧ TB w' w.heap.size h ∧ Only [] w w' := by
  have HT := hide (there_some w g h hb)
  have HR := hide hb.range
  have H8 := hide h8
  have HN := hide (Blk.new w (tcl false h0).toArray 46)
  have HO := hide (Only.alloc w (.cells (tcl false h0).toArray 46) [])
  clear hb h8
  go_enter Try.func11, Try.ntmps11
  go_wp2_with (first
      | (go_at_call 19; refine Calls.mono HT.out ?_; rintro e w4 ⟨rfl, rfl⟩)
      | (refine wp_load46 H8.out HR.out _ (by rfl) (by rfl) (by rfl) ?_)
      | (refine wp_store46 H8.out h0_length HN.out _ _ (by rfl) (by rfl) (by rfl) (by rfl) ?_; intro W5 hN5 hO5; have HN5 := hide hN5; have HO5 := hide hO5; clear hN5 hO5))
  go_ret
  exact ⟨rfl, HN5.out, HO.out.andThen HO5.out (fun j hj => .inr (by simp at hj; omega))⟩
end Go.Proofs.Ythenbbpfbkmhnaa
