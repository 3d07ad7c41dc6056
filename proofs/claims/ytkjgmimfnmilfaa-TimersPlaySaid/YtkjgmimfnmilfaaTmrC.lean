/-
  What comparing two timers answers.
  Conditions: none.
-/
import Derived.Test.YtkjgmimfnmilfaaTmrM
import Derived.StillTailTactics
import Derived.Deep.RegionHeld3
namespace Go.Proofs.Ytkjgmimfnmilfaa.Tm5
open Go.RowKit

def cmp (a b : Int) : Int := if a < b then -1 else if b < a then 1 else 0
def or3 (a b c : Int) : Int := if a = 0 then (if b = 0 then c else b) else a
def cm (x y : Tm) : Int := or3 (cmp x.t y.t) (cmp x.k.kd y.k.kd) (cmp x.k.id y.k.id)
theorem cmp_bd (a b : Int) : -1 ≤ cmp a b ∧ cmp a b ≤ 1 := by unfold cmp; split <;> (try split) <;> omega
theorem cm_lt (x y : Tm) : (cm x y < 0) ↔ lt x y = true := by
  rw [lt_iff]
  unfold cm or3 cmp
  split <;> split <;> (try split) <;> (try split) <;> (try split) <;> omega

theorem nan64 (a : Int) (w : World) : Calls Try.prog 60 #[.int .u64 a] w fun e w' => e = .returned (.bool false) ∧ w = w' := by
  go_enter Try.func60, Try.ntmps60
  go_wp2
  go_ret
  exact ⟨rfl, rfl⟩
theorem nan8 (a : Int) (w : World) : Calls Try.prog 61 #[.int .u8 a] w fun e w' => e = .returned (.bool false) ∧ w = w' := by
  go_enter Try.func61, Try.ntmps61
  go_wp2
  go_ret
  exact ⟨rfl, rfl⟩
theorem cmp64 (a b : Int) (w : World) : Calls Try.prog 58 #[.int .u64 a, .int .u64 b] w fun e w' => e = .returned (.int .i64 (cmp a b)) ∧ w = w' := by
  obtain ⟨z, hz⟩ : ∃ z, cmp a b = z := ⟨_, rfl⟩
  have HZ := veil hz
  rw [hz]
  clear hz
  have hc : (a < b ∧ z = -1) ∨ (¬ a < b ∧ b < a ∧ z = 1) ∨ (¬ a < b ∧ ¬ b < a ∧ z = 0) := by have := HZ.out; unfold cmp at this; split at this <;> (try split at this) <;> omega
  clear HZ
  rcases hc with ⟨h1, h2⟩ | ⟨h1, h2, h3⟩ | ⟨h1, h2, h3⟩
  all_goals
    subst z
    go_enter Try.func58, Try.ntmps58
    go_wp2_with fail
    refine (nan64 _ _).mono ?_
    rintro e w1 ⟨rfl, rfl⟩
    go_wp2_with fail
    refine (nan64 _ _).mono ?_
    rintro e w1 ⟨rfl, rfl⟩
    go_wp2_with fail
    go_ret
    exact ⟨rfl, rfl⟩
theorem cmp8 (a b : Int) (w : World) : Calls Try.prog 59 #[.int .u8 a, .int .u8 b] w fun e w' => e = .returned (.int .i64 (cmp a b)) ∧ w = w' := by
  obtain ⟨z, hz⟩ : ∃ z, cmp a b = z := ⟨_, rfl⟩
  have HZ := veil hz
  rw [hz]
  clear hz
  have hc : (a < b ∧ z = -1) ∨ (¬ a < b ∧ b < a ∧ z = 1) ∨ (¬ a < b ∧ ¬ b < a ∧ z = 0) := by have := HZ.out; unfold cmp at this; split at this <;> (try split at this) <;> omega
  clear HZ
  rcases hc with ⟨h1, h2⟩ | ⟨h1, h2, h3⟩ | ⟨h1, h2, h3⟩
  all_goals
    subst z
    go_enter Try.func59, Try.ntmps59
    go_wp2_with fail
    refine (nan8 _ _).mono ?_
    rintro e w1 ⟨rfl, rfl⟩
    go_wp2_with fail
    refine (nan8 _ _).mono ?_
    rintro e w1 ⟨rfl, rfl⟩
    go_wp2_with fail
    go_ret
    exact ⟨rfl, rfl⟩

theorem ret_int {k : IntKind} {a b : Int} (h : a = b) : Ending.returned (.int k a) = .returned (.int k b) := by rw [h]
theorem or_any (a b c : Int) (w : World) (g : Nat) (h : Row w g 3 #[.int .i64 a, .int .i64 b, .int .i64 c]) :
    Calls Try.prog 57 #[.slice (some ⟨g, 0, none⟩) 3 3] w fun e w' => e = .returned (.int .i64 (or3 a b c)) ∧ w = w' := by
  have H := veil h
  clear h
  have e0 : w.cell? ⟨g, 0, none⟩ = some (.int .i64 a) := H.out.cell 0
  have e1 : w.cell? ⟨g, 1, none⟩ = some (.int .i64 b) := H.out.cell 1
  have e2 : w.cell? ⟨g, 2, none⟩ = some (.int .i64 c) := H.out.cell 2
  clear H
  go_enter Try.func57, Try.ntmps57
  go_wp2
  go_loop [8] (fun i => ∃ k : Nat, k ≤ 3 ∧ i = .int .i64 k ∧ Hid ((1 ≤ k → a = 0) ∧ (2 ≤ k → b = 0) ∧ (3 ≤ k → c = 0))) (fun i => 3 - (intOf i).toNat)
  case atStart => exact ⟨0, Nat.zero_le _, rfl, ⟨by omega, by omega, by omega⟩⟩
  case round =>
    obtain ⟨k, hk, rfl, hh⟩ := hrel
    match k, hk with
    | 0, _ =>
      clear e1 e2
      by_cases h0 : a = 0
      · have h1 : (a != 0) = false := by simp [h0]
        have h0' := veil h0
        clear h0
        go_wp2
        go_round
        case rel => exact ⟨1, by omega, by go_num, ⟨fun _ => h0'.out, by omega, by omega⟩⟩
        case measure => simp [intOf]
      · have h1 : (a != 0) = true := by simp [h0]
        go_wp2
        go_ret
        exact ⟨ret_int (by unfold or3; rw [if_neg h0]), rfl⟩
    | 1, _ =>
      clear e0 e2
      by_cases h0 : b = 0
      · have h1 : (b != 0) = false := by simp [h0]
        have h0' := veil h0
        clear h0
        go_wp2
        go_round
        case rel => exact ⟨2, by omega, by go_num, ⟨fun _ => hh.out.1 (by omega), fun _ => h0'.out, by omega⟩⟩
        case measure => simp [intOf]
      · have h1 : (b != 0) = true := by simp [h0]
        go_wp2
        go_ret
        exact ⟨ret_int (by unfold or3; rw [if_pos (hh.out.1 (by omega)), if_neg h0]), rfl⟩
    | 2, _ =>
      clear e0 e1
      by_cases h0 : c = 0
      · have h1 : (c != 0) = false := by simp [h0]
        have h0' := veil h0
        clear h0
        go_wp2
        go_round
        case rel => exact ⟨3, by omega, by go_num, ⟨fun _ => hh.out.1 (by omega), fun _ => hh.out.2.1 (by omega), fun _ => h0'.out⟩⟩
        case measure => simp [intOf]
      · have h1 : (c != 0) = true := by simp [h0]
        go_wp2
        go_ret
        exact ⟨ret_int (by unfold or3; rw [if_pos (hh.out.1 (by omega)), if_pos (hh.out.2.1 (by omega))]), rfl⟩
    | 3, _ =>
      clear e0 e1 e2
      go_wp2
      go_ret
      exact ⟨ret_int (by unfold or3; rw [if_pos (hh.out.1 (by omega)), if_pos (hh.out.2.1 (by omega)), hh.out.2.2 (by omega)]), rfl⟩


/-- a timer in a block of its own -/
def Box (w : World) (g : Nat) (x : Tm) : Prop := w.cell? ⟨g, 0, none⟩ = some (.int .u8 x.k.kd) ∧ w.cell? ⟨g, 1, none⟩ = some (.int .u64 x.k.id) ∧ w.cell? ⟨g, 2, none⟩ = some (.int .u64 x.t)
theorem Box.keep {w w' : World} {g : Nat} {x : Tm} (h : Box w g x) (hb : Below w.heap.size w w') : Box w' g x :=
  ⟨by rw [hb.cell (block_lt_of_cell h.1), h.1], by rw [hb.cell (block_lt_of_cell h.2.1), h.2.1], by rw [hb.cell (block_lt_of_cell h.2.2), h.2.2]⟩
theorem box_new {w : World} {g : Nat} {x : Tm} {T : TypeId} (h : g = w.heap.size) : Box (w.alloc (.cells #[.int .u8 x.k.kd, .int .u64 x.k.id, .int .u64 x.t] T)) g x :=
  ⟨(row_new h).cell 0, (row_new h).cell 1, (row_new h).cell 2⟩

theorem compare_any (x y : Tm) (w : World) :
    Calls Try.prog 56 #[.agg (tv x).toArray, .agg (tv y).toArray] w fun e w' => e = .returned (.int .i64 (cm x y)) ∧ Below w.heap.size w w' := by
  show Calls _ _ #[.agg #[.int .u8 x.k.kd, .int .u64 x.k.id, .int .u64 x.t], .agg #[.int .u8 y.k.kd, .int .u64 y.k.id, .int .u64 y.t]] w _
  go_enter Try.func56, Try.ntmps56
  go_wp2_with fail
  have b0 := (box_new (w := w) (x := x) (T := 61) rfl).keep (below_new _ (.cells #[.int .u8 y.k.kd, .int .u64 y.k.id, .int .u64 y.t] 61))
  have b1 := box_new (w := w.alloc (.cells #[.int .u8 x.k.kd, .int .u64 x.k.id, .int .u64 x.t] 61)) (g := w.heap.size + 1) (x := y) (T := 61) (by simp)
  have HB := (below_new w (.cells #[.int .u8 x.k.kd, .int .u64 x.k.id, .int .u64 x.t] 61)).alloc (by simp) (.cells #[.int .u8 y.k.kd, .int .u64 y.k.id, .int .u64 y.t] 61)
  generalize (w.alloc (.cells #[.int .u8 x.k.kd, .int .u64 x.k.id, .int .u64 x.t] 61)).alloc (.cells #[.int .u8 y.k.kd, .int .u64 y.k.id, .int .u64 y.t] 61) = w1 at b0 b1 HB ⊢
  obtain ⟨g0, hg0⟩ : ∃ g, g = w.heap.size := ⟨_, rfl⟩
  rw [← hg0] at b0 b1 ⊢
  clear hg0
  have QB : Hid (Below w.heap.size w w1) := HB
  have B0 : Hid (Box w1.drew g0 x) := b0
  have B1 : Hid (Box w1.drew (g0 + 1) y) := b1
  clear b0 b1 HB
  have RO : Hid (Row (w1.alloc (.cells #[.int .i64 (cmp x.t y.t), .int .i64 (cmp x.k.kd y.k.kd), .int .i64 (cmp x.k.id y.k.id)] 3)).drew w1.heap.size 3 #[.int .i64 (cmp x.t y.t), .int .i64 (cmp x.k.kd y.k.kd), .int .i64 (cmp x.k.id y.k.id)]) := row_new rfl
  go_region_held3 (fun w' => (w'.cell? ⟨g0, 0, none⟩ = some (.int .u8 x.k.kd) ∧ w'.cell? ⟨g0, 1, none⟩ = some (.int .u64 x.k.id) ∧ w'.cell? ⟨g0, 2, none⟩ = some (.int .u64 x.t)) ∧ (w'.cell? ⟨g0 + 1, 0, none⟩ = some (.int .u8 y.k.kd) ∧ w'.cell? ⟨g0 + 1, 1, none⟩ = some (.int .u64 y.k.id) ∧ w'.cell? ⟨g0 + 1, 2, none⟩ = some (.int .u64 y.t))) (first | exact ⟨B0.out, B1.out⟩ | exact ⟨B0.out.keep (below_new _ _), B1.out.keep (below_new _ _)⟩)
    (first
      | (go_at_call 58; refine (cmp64 _ _ _).mono ?_; rintro e w9 ⟨rfl, rfl⟩)
      | (go_at_call 59; refine (cmp8 _ _ _).mono ?_; rintro e w9 ⟨rfl, rfl⟩)
      | (go_at_call 57; refine (or_any _ _ _ _ w1.heap.size RO.out).mono ?_; rintro e w9 ⟨rfl, rfl⟩))
  have QE : Hid (Below w.heap.size w (w1.alloc (.cells #[.int .i64 (cmp x.t y.t), .int .i64 (cmp x.k.kd y.k.kd), .int .i64 (cmp x.k.id y.k.id)] 3)).drew) := below_still (QB.out.trans ((below_new _ _).mono QB.out.size)) ⟨1, rfl⟩
  clear RO B0 B1 QB
  go_wp2_with fail
  go_ret
  exact ⟨rfl, QE.out⟩

end Go.Proofs.Ytkjgmimfnmilfaa.Tm5
