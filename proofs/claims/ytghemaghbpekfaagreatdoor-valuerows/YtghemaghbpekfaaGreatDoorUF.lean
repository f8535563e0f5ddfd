/- Rows of any length as arguments: both write them alike, and hold them alike against each other. -/
import Derived.Test.YtghemaghbpekfaaGreatDoorUE
import Derived.Test.YtghemaghbpekfaaGreatDoorUB
import Derived.Test.YtghemaghbpekfaaGreatDoorUC
namespace Go.Proofs.YtghemaghbpekfaaGreatDoor
open Go.ChangeShapes Go.WideShapes Go.ChangeAt Go.RowKit
set_option linter.unusedVariables false

/-- A row of values. -/
def RowIs (w : World) (v : Value) (len : Nat) (K N : Nat → Int) (T : Nat → ByteArray) : Prop :=
  (len = 0 ∧ (v = .slice none 0 0 ∨ ∃ a cap, v = .slice (some a) 0 cap)) ∨ (0 < len ∧ ∃ b o cap, v = .slice (some ⟨b, o, none⟩) len cap ∧ RowAt w b o len K N T)
theorem RowIs.later {w w' : World} {v : Value} {len : Nat} {K N : Nat → Int} {T : Nat → ByteArray} (h : RowIs w v len K N T) (hb : Below w.heap.size w w') : RowIs w' v len K N T := by
  rcases h with h | ⟨h0, b, o, cap, hv, hr⟩
  · exact .inl h
  · exact .inr ⟨h0, b, o, cap, hv, hr.later hb⟩
theorem RowIs.any {w : World} {v : Value} {len : Nat} {K N : Nat → Int} {T : Nat → ByteArray} (h : RowIs w v len K N T) : ∃ p cap, v = .slice p len cap := by
  rcases h with ⟨rfl, rfl | ⟨a, cap, rfl⟩⟩ | ⟨h0, b, o, cap, rfl, hr⟩
  · exact ⟨_, _, rfl⟩
  · exact ⟨_, _, rfl⟩
  · exact ⟨_, _, rfl⟩
/-- A row of collations. -/
def CollIs (w : World) (v : Value) (lc : Nat) (C : Nat → Int) : Prop := (lc = 0 ∧ ∃ p cc, v = .slice p 0 cc) ∨ ∃ g o cc, v = .slice (some ⟨g, o, none⟩) lc cc ∧ IntAt w g o lc C
theorem CollIs.later {w w' : World} {v : Value} {lc : Nat} {C : Nat → Int} (h : CollIs w v lc C) (hb : Below w.heap.size w w') : CollIs w' v lc C := by
  rcases h with h | ⟨g, o, cc, hv, hr⟩
  · exact .inl h
  · exact .inr ⟨g, o, cc, hv, hr.later hb⟩

theorem below_eq {V w' : World} (h : V = w') : Below V.heap.size V w' := by subst h; exact Below.refl _ _
abbrev standR (la lb : Nat) (K N : Nat → Int) (T : Nat → ByteArray) (K2 N2 : Nat → Int) (T2 : Nat → ByteArray) (lc : Nat) (C : Nat → Int) : Int := rowsR (fun i => cmpA (K i) (N i) (T i) (K2 i) (N2 i) (T2 i) (collAt lc C i)) la lb

theorem both_cmp {la lb lc : Nat} {K N : Nat → Int} {T : Nat → ByteArray} {K2 N2 : Nat → Int} {T2 : Nat → ByteArray} {C : Nat → Int} {a b c : Value} (hla : la ≤ 140737488355328) (hlb : lb ≤ 140737488355328) (V : World) (ha : RowIs V a la K N T) (hb : RowIs V b lb K2 N2 T2) (hc : CollIs V c lc C) :
    (Calls Tryz.prog 13 #[a, b, c] V fun e w' => e = .returned (.int .i64 (standR la lb K N T K2 N2 T2 lc C)) ∧ Below V.heap.size V w') ∧
    (Calls Tryz.prog 14 #[a, b, c] V fun e w' => e = .returned (.int .i64 (standR la lb K N T K2 N2 T2 lc C)) ∧ Below V.heap.size V w') := by
  have hcv : ∃ cp cl cc, c = .slice cp cl cc := by
    rcases hc with ⟨_, p, cc, rfl⟩ | ⟨g, o, cc, rfl, _⟩
    · exact ⟨_, _, _, rfl⟩
    · exact ⟨_, _, _, rfl⟩
  by_cases hz : la = 0 ∨ lb = 0
  · obtain ⟨p1, c1, rfl⟩ := ha.any
    obtain ⟨p2, c2, rfl⟩ := hb.any
    obtain ⟨cp, cl, cc, rfl⟩ := hcv
    exact ⟨(cmprows_z p1 p2 la c1 lb c2 cp cl cc _ (by omega) V).mono fun e w' ⟨h1, h2⟩ => ⟨h1, below_eq h2⟩, (rcmprows_z p1 p2 la c1 lb c2 cp cl cc _ hz V).mono fun e w' ⟨h1, h2⟩ => ⟨h1, below_eq h2⟩⟩
  · rcases ha with ⟨h0, _⟩ | ⟨_, b1, o1, cap1, rfl, hr1⟩
    · omega
    rcases hb with ⟨h0, _⟩ | ⟨_, b2, o2, cap2, rfl, hr2⟩
    · omega
    rcases hc with ⟨rfl, p, cc, rfl⟩ | ⟨g, o, cc, rfl, hi⟩
    · have e : standR la lb K N T K2 N2 T2 0 C = standR la lb K N T K2 N2 T2 0 (fun _ => 0) := by
        show rowsR _ la lb = rowsR _ la lb
        congr 1
      rw [e]
      exact ⟨cmprows_n b1 o1 la cap1 b2 o2 lb cap2 K N T K2 N2 T2 hla hlb V p cc hr1 hr2, rcmprows_n b1 o1 la cap1 b2 o2 lb cap2 K N T K2 N2 T2 hla hlb V p cc hr1 hr2⟩
    · exact ⟨cmprows_c b1 o1 la cap1 b2 o2 lb cap2 K N T K2 N2 T2 hla hlb V g o lc cc C hi hr1 hr2, rcmprows_c b1 o1 la cap1 b2 o2 lb cap2 K N T K2 N2 T2 hla hlb V g o lc cc C hi hr1 hr2⟩

theorem check_empty (a : Addr) (cap : Nat) (w : World) : Calls Tryz.prog 26 #[.slice (some a) 0 cap] w fun e w' => e = .returned (.int .i64 0) ∧ w = w' := by
  go_enter Tryz.func26, Tryz.ntmps26
  go_wp2
  refine wp_loop_rounds 1 ?_
  rw [rounds_succ]
  go_wp2
  go_ret
  exact ⟨rfl, rfl⟩

open Classical in
/-- Both write a row alike, or refuse it alike. -/
theorem both_print {len : Nat} {K N : Nat → Int} {T : Nat → ByteArray} (hlen : len * 32 ≤ 140737488355328) (hin : inRow len N) : ∃ (s : ByteArray) (E : Int), ∀ (V : World) (v : Value), Env V → RowIs V v len K N T →
    (Calls Tryz.prog 10 #[v] V fun e w' => e = .returned (.tuple #[.string s, .int .i64 E]) ∧ Below V.heap.size V w') ∧
    (Calls Tryz.prog 12 #[v] V fun e w' => e = .returned (.tuple #[.string s, .int .i64 E]) ∧ Below V.heap.size V w') := by
  by_cases h0 : len = 0
  · refine ⟨⟨#[]⟩, 0, fun V v hV hv => ?_⟩
    subst h0
    rcases hv with ⟨_, rfl | ⟨a, cap, rfl⟩⟩ | ⟨h, _⟩
    · exact ⟨prow_nil none 0 V (check_none V), rprow_nil none 0 V (rcheck_none V)⟩
    · exact ⟨prow_nil (some a) cap V (check_empty a cap V), rprow_nil (some a) cap V (rcheck_empty a cap V)⟩
    · omega
  by_cases hc : chk len K N T = 0
  · have hall : ∀ i, i < len → mayB (K i) (N i) (T i) = true := by
      intro i hi
      cases hm : mayB (K i) (N i) (T i) with
      | true => rfl
      | false => rw [chk_bad hi hm] at hc; cases hc
    have h16 : len ≤ 16 := by
      refine Nat.le_of_not_lt fun h => ?_
      rw [chk_long hall h] at hc; cases hc
    refine ⟨⟨(litsL K N T len).toArray⟩, 0, fun V v hV hv => ?_⟩
    rcases hv with ⟨h, _⟩ | ⟨_, b, o, cap, rfl, hr⟩
    · omega
    exact ⟨prow_ok b o len cap K N T h16 hall hin V hV hr, rprow_ok b o len cap K N T h16 hall hin V hV hr⟩
  · refine ⟨⟨#[]⟩, chk len K N T, fun V v hV hv => ?_⟩
    rcases hv with ⟨h, _⟩ | ⟨_, b, o, cap, rfl, hr⟩
    · omega
    exact ⟨prow_bad _ _ hc V (check_some b o len cap K N T (by omega) V hr), rprow_bad _ _ hc V (rcheck_some b o len cap K N T (by omega) V hr)⟩

/-- The copy of a row is a row. -/
theorem copy_is {len : Nat} {K N : Nat → Int} {T : Nat → ByteArray} (hlen : len * 32 ≤ 140737488355328) (V : World) (v : Value) (hv : RowIs V v len K N T) :
    Calls Tryz.prog 11 #[v] V fun e w' => ∃ v', e = .returned v' ∧ RowIs w' v' len K N T ∧ Below V.heap.size V w' := by
  rcases hv with ⟨rfl, rfl | ⟨a, cap, rfl⟩⟩ | ⟨h0, b, o, cap, rfl, hr⟩
  · exact (copy_none V).mono fun e w' ⟨h1, h2⟩ => ⟨_, h1, .inl ⟨rfl, .inl rfl⟩, below_eq h2⟩
  · exact (copy_empty a cap V).mono fun e w' ⟨h1, h2⟩ => ⟨_, h1, .inl ⟨rfl, .inl rfl⟩, below_eq h2⟩
  · exact (copy_some b o len cap K N T h0 hlen V hr).mono fun e w' ⟨g, c, h1, h2, h3⟩ => ⟨_, h1, .inr ⟨h0, g, 0, c, rfl, h2⟩, h3⟩
end Go.Proofs.YtghemaghbpekfaaGreatDoor
